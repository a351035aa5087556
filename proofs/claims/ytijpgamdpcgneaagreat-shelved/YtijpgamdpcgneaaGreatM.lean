import Derived.Test.YtijpgamdpcgneaaGreatL
import Derived.Test.YtijpgamdpcgneaaGreatM0
namespace Go.Proofs.YtijpgamdpcgneaaGreat
open Go.RowKit

set_option maxRecDepth 20000 in
set_option maxHeartbeats 1000000 in
theorem Len_calls (n : Int) (h0 : 0 ≤ n) (h : n ≤ 6) (w : World) :
    Calls Tryz.prog 106 #[.int .u64 n] w fun e w' => (∃ r : Int, e = .returned (.int .i64 r)) ∧ w' = w := by
  have cS := Len64_calls n h0 h w
  go_enter Tryz.func106, Tryz.ntmps106
  go_wp2_with (go_at_call 147; refine cS.mono ?_; rintro e W' ⟨⟨r, rfl⟩, rfl⟩)
  go_ret
  exact ⟨⟨_, rfl⟩, rfl⟩

set_option maxRecDepth 20000 in
set_option maxHeartbeats 1000000 in
theorem pdq_calls (g cap : Nat) (xs : List Mo) (hx : xs.length ≤ 6) (r : Int) (w : World) (h : Row w g 78 xs cap) :
    Calls Tryz.prog 105 #[.slice (some ⟨g, 0, none⟩) xs.length cap, .int .i64 0, .int .i64 xs.length, .int .i64 r, .func (.func 68) #[] #[]] w fun e w' => e = .returned (.tuple #[]) ∧ Upd (· = g) w w' ∧ Row w' g 78 (isort xs) cap := by
  have cS := insSort_calls g cap xs (by omega) w h
  go_enter Tryz.func105, Tryz.ntmps105
  go_wp2
  go_loopw [1, 2] (fun a b wr => a = .int .i64 0 ∧ b = .int .i64 xs.length ∧ Hid (wr = w)) (fun _ _ _ => 0)
  case atStart => exact ⟨rfl, rfl, hide rfl⟩
  case round =>
    obtain ⟨rfl, rfl, he⟩ := hrel
    have := unhide he
    subst this
    go_wp2_with (go_at_call 138; refine cS.mono ?_; rintro e W' ⟨rfl, hu, hr⟩)
    refine bodyPost_ret (v := .tuple #[]) (by simp [results, Tryz.results105, go_sem]) rfl ⟨rfl, hu, hr⟩

set_option maxRecDepth 20000 in
set_option maxHeartbeats 1000000 in
theorem SortFunc_calls (g cap : Nat) (xs : List Mo) (hx : xs.length ≤ 6) (w : World) (h : Row w g 78 xs cap) :
    Calls Tryz.prog 67 #[.slice (some ⟨g, 0, none⟩) xs.length cap, .func (.func 68) #[] #[]] w fun e w' => e = .returned (.tuple #[]) ∧ Upd (· = g) w w' ∧ Row w' g 78 (isort xs) cap := by
  have cL := Len_calls (xs.length : Int) (by omega) (by omega) w
  have cS := fun r => pdq_calls g cap xs hx r w h
  go_enter Tryz.func67, Tryz.ntmps67
  go_wp2_with fail
  refine cL.mono ?_
  rintro e W' ⟨⟨r, rfl⟩, rfl⟩
  go_wp2_with fail
  refine (cS r).mono ?_
  rintro e W2 ⟨rfl, hu, hr⟩
  go_wp2
  go_end0
  exact ⟨rfl, hu, hr⟩

theorem isortFrom_length (f : Nat) : ∀ (l : List Mo) (i : Nat), (isortFrom l i f).length = l.length := by
  have hs : ∀ (j : Nat) (l : List Mo), (sift l j).length = l.length := by
    intro j
    induction j with
    | zero => intro l; rw [sift_zero]
    | succ j ih =>
      intro l
      unfold sift
      split
      · split
        · rw [ih]; simp
        · rfl
      · rfl
  induction f with
  | zero => intro l i; rfl
  | succ f ih => intro l i; rw [isortFrom, ih, hs]

theorem isort_length (l : List Mo) : (isort l).length = l.length := isortFrom_length _ _ _

set_option maxRecDepth 20000 in
set_option maxHeartbeats 1000000 in
theorem Ordered_calls (v : Value) (xs : List Mo) (hx : xs.length ≤ 6) (hp : ∀ m ∈ xs, m.1.size ≤ 140737488355328) (w : World) (h : LstAt w v xs) :
    Calls Tryz.prog 54 #[v] w fun e w' => e = .returned (.slice (some ⟨w.heap.size, 0, none⟩) xs.length xs.length) ∧ Row w' w.heap.size 78 (isort xs) xs.length ∧ Below w.heap.size w w' := by
  obtain ⟨a, cap, rfl⟩ := h.length
  obtain ⟨M, hM, hmk0⟩ := run_makeRow 70 78 Tryz.underlying70 Tryz.info78 xs.length (by omega)
  have H := hide h
  have HP := hide hp
  clear h hp
  have hmk := hmk0 w
  clear hmk0
  have hr0 := hide (Row.made w M 78 xs.length hM)
  clear hM
  go_enter Tryz.func54, Tryz.ntmps54
  go_wp2
  go_loopw [11] (fun i wr => ∃ k : Nat, k ≤ xs.length ∧ i = .int .i64 k ∧ Below w.heap.size w wr ∧ Row wr w.heap.size 78 (xs.take k) xs.length) (fun i _ => xs.length - (intOf i).toNat)
  case atStart => exact ⟨0, Nat.zero_le _, rfl, below_one _ _, unhide hr0⟩
  case round =>
    clear hmk hr0
    obtain ⟨k, hk, rfl, hbw, hrow⟩ := hrel
    by_cases hlt : k < xs.length
    · obtain ⟨m, hm⟩ : ∃ m, xs[k]? = some m := ⟨_, List.getElem?_eq_getElem hlt⟩
      obtain ⟨b, off, cap', he, hb, hc⟩ := (unhide H).at (by intro e; subst e; simp at hlt)
      cases he
      have c0 := (hbw.cell (p := ⟨b, off + k * 2, none⟩) hb).trans (hc k m hm).1
      have c1 := (hbw.cell (p := ⟨b, off + k * 2 + 1, none⟩) hb).trans (hc k m hm).2
      clear hc
      have cS := fun W => Own_calls m W (by have := unhide HP m (List.mem_of_getElem? hm); omega)
      simp only [mv] at cS
      have hrow' := hrow.alloc (.cells #[.string m.1, .int .i64 m.2] 78)
      have hg := hrow'.lt
      have hbs := hbw.size
      have HM := hide hm
      clear hrow hm
      go_wp2_with fail
      refine (cS _).mono ?_
      rintro e W' ⟨rfl, hb'⟩
      have hrw := hrow'.of_block (w' := W') (hb'.block _ hg)
      have hbw' := (hbw.alloc hbs (.cells #[.string m.1, .int .i64 m.2] 78)).trans (hb'.mono (by simp; omega))
      clear hrow' cS
      obtain ⟨v0, g0⟩ := hrw.cell (j := k * 2) (by omega)
      obtain ⟨v1, g1⟩ := hrw.cell (j := k * 2 + 1) (by omega)
      have f0 := hrw.frozen (k * 2)
      have f1 := hrw.frozen (k * 2 + 1)
      have R := hide (hrw.put m (by simp; omega))
      clear hrw
      go_wp2
      go_roundw
      case rel =>
        refine ⟨k + 1, by omega, by go_num, ?_, ?_⟩
        · exact (hbw'.setCell (Nat.le_refl _) _).setCell (Nat.le_refl _) _
        · have R' := unhide R
          rw [List.length_take, Nat.min_eq_left (by omega)] at R'
          rw [List.take_add_one, unhide HM]
          exact R'
      case measure => simp [intOf]; omega
    · rw [List.take_of_length_le (by omega)] at hrow
      have cS := SortFunc_calls w.heap.size xs.length xs hx wr hrow
      clear hrow
      go_wp2_with fail
      refine cS.mono ?_
      rintro e W' ⟨rfl, hu, hr⟩
      clear cS
      go_wp2
      go_ret
      refine ⟨rfl, hr, ⟨hu.os.trans hbw.os, hu.tape.trans hbw.tape, hu.output.trans hbw.output, Nat.le_trans hbw.size hu.size, fun j hj => ?_⟩⟩
      rw [hu.block j (by have := hbw.size; omega) (by omega)]
      exact hbw.block j hj
end Go.Proofs.YtijpgamdpcgneaaGreat
