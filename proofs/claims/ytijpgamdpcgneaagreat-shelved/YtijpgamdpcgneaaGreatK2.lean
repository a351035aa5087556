import Derived.Test.YtijpgamdpcgneaaGreatK
namespace Go.Proofs.YtijpgamdpcgneaaGreat
open Go.RowKit

set_option maxRecDepth 20000 in
set_option maxHeartbeats 1000000 in
theorem ToPlain_calls (v : Value) (xs : List Mo) (hx : xs.length * 24 ≤ 140737488355328) (w : World) (h : LstAt w v xs) :
    Calls Tryz.prog 36 #[v] w fun e w' => e = .returned (.slice (some ⟨w.heap.size, 0, none⟩) xs.length xs.length) ∧ Row w' w.heap.size 33 xs xs.length ∧ Below w.heap.size w w' := by
  obtain ⟨a, cap, rfl⟩ := h.length
  obtain ⟨M, hM, hmk0⟩ := run_makeRow 29 33 Tryz.underlying29 Tryz.info33 xs.length hx
  have H := hide h
  clear h
  have hmk := hmk0 w
  clear hmk0
  have hr0 := hide (Row.made w M 33 xs.length hM)
  clear hM
  go_enter Tryz.func36, Tryz.ntmps36
  go_wp2
  go_loopw [11] (fun i wr => ∃ k : Nat, k ≤ xs.length ∧ i = .int .i64 k ∧ Below w.heap.size w wr ∧ Row wr w.heap.size 33 (xs.take k) xs.length) (fun i _ => xs.length - (intOf i).toNat)
  case atStart => exact ⟨0, Nat.zero_le _, rfl, below_one _ _, unhide hr0⟩
  case round =>
    clear hmk hr0
    obtain ⟨k, hk, rfl, hbw, hrow⟩ := hrel
    by_cases hlt : k < xs.length
    · obtain ⟨m, hm⟩ : ∃ m, xs[k]? = some m := ⟨_, List.getElem?_eq_getElem hlt⟩
      obtain ⟨b, off, cap', he, hb, hc⟩ := (unhide H).at (by intro e; subst e; simp at hlt)
      cases he
      have c0 := (hbw.cell (p := ⟨b, off + k * 2, none⟩) hb).trans (hc k m hm).1
      have c1 := (hbw.cell (p := ⟨b, off + k * 2 + 1, none⟩) hb).trans (hc k m hm).2
      clear hc
      have hrow' := hrow.alloc (.cells #[.string m.1, .int .i64 m.2] 78)
      obtain ⟨v0, g0⟩ := hrow'.cell (j := k * 2) (by omega)
      obtain ⟨v1, g1⟩ := hrow'.cell (j := k * 2 + 1) (by omega)
      have f0 := hrow'.frozen (k * 2)
      have f1 := hrow'.frozen (k * 2 + 1)
      have R := hide (hrow'.put m (by simp; omega))
      have hbs := hbw.size
      have HM := hide hm
      clear hrow hrow' hm
      go_wp2
      go_roundw
      case rel =>
        refine ⟨k + 1, by omega, by go_num, ?_, ?_⟩
        · exact ((hbw.alloc hbs _).setCell (Nat.le_refl _) _).setCell (Nat.le_refl _) _
        · have R' := unhide R
          rw [List.length_take, Nat.min_eq_left (by omega)] at R'
          rw [List.take_add_one, unhide HM]
          exact R'
      case measure => simp [intOf]; omega
    · go_wp2
      go_ret
      rw [List.take_of_length_le (by omega)] at hrow
      exact ⟨rfl, hrow, hbw⟩
end Go.Proofs.YtijpgamdpcgneaaGreat
