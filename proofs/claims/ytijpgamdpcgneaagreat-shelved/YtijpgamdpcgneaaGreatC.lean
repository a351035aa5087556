import Derived.Test.YtijpgamdpcgneaaGreatB
namespace Go.Proofs.YtijpgamdpcgneaaGreat
open Go.RowKit

theorem decode_high (s : ByteArray) (pos : Nat) (h : pos < s.size) (h2 : 128 ≤ (s[pos]'h).toNat) : 128 ≤ (Utf8.decode s pos).1 := by
  have e : (s.get! (pos + 0)).toNat = (s[pos]'h).toNat := by
    simp [ByteArray.get!, ByteArray.getElem_eq_getElem_data, h, getElem!_pos]
  unfold Utf8.decode
  simp only [e, Utf8.runeError]
  rw [if_neg (by omega)]
  repeat' split
  all_goals simp_all
  all_goals omega

theorem Width_pos (s : ByteArray) (pos : Nat) : 1 ≤ (Utf8.decode s pos).2 := by
  unfold Utf8.decode
  simp only
  repeat' split
  all_goals simp

/-- 'isNoLetter' of some letter. -/
def noLetter (r : Int) : Bool := decide (r < 97) || decide (122 < r)

set_option maxRecDepth 20000 in
set_option maxHeartbeats 2000000 in
set_option maxRecDepth 1000000 in
theorem indexFunc_calls (s : ByteArray) (w : World) :
    Calls Tryz.prog 161 #[.string s, .func (.func 114) #[] #[], .bool true] w fun e w' => (∃ i : Int, e = .returned (.int .i64 i) ∧ (decide (0 ≤ i) = !decide (∀ j, (h : j < s.size) → okLetter (s[j]'h) = true))) ∧ Below w.heap.size w w' := by
  go_enter Tryz.func161, Tryz.ntmps161
  go_wp2
  go_loopg [] s.size (fun gf wx => ∃ pos : Nat, wx.heap[w.heap.size]? = some (.stringIter s pos) ∧ Below w.heap.size w wx ∧ (∀ j, (h : j < s.size) → j < pos → okLetter (s[j]'h) = true) ∧ s.size ≤ pos + gf)
  case atStart => exact ⟨0, World.iter_heap w s 0, (Below.refl _ w).alloc (Nat.le_refl _) _, by omega, by omega⟩
  case round =>
    obtain ⟨pos, hit, hbw, hall, hfu⟩ := hrel
    have HA : Hid (∀ j, (h : j < s.size) → j < pos → okLetter (s[j]'h) = true) := hall
    clear hall
    by_cases hps : pos < s.size
    · obtain ⟨g', rfl⟩ : ∃ g', gk = g' + 1 := ⟨gk - 1, by omega⟩
      have hnx : ∀ ty, (Instr.next (.pointer (some ⟨w.heap.size, 0, none⟩)) true ty).run Tryz.prog wr = _ := fun ty => Lib.run_next_any_at wr w.heap.size s pos ty hit hps
      have hwd := Width_pos s pos
      obtain ⟨R, hR⟩ : ∃ R, (Utf8.decode s pos).1 = R := ⟨_, rfl⟩
      obtain ⟨K, hK⟩ : ∃ K, (Utf8.decode s pos).2 = K := ⟨_, rfl⟩
      have HL : Hid ((noLetter R = false → K = 1 ∧ okLetter (s[pos]'hps) = true) ∧ (noLetter R = true → okLetter (s[pos]'hps) = false)) := by
        show _ ∧ _
        by_cases h128 : (s[pos]'hps).toNat < 128
        · rw [decode_ascii s pos hps h128] at hR hK
          have hR' : (s[pos]'hps).toNat = R := hR
          have hK' : 1 = K := hK
          clear hR hK
          subst hR'; subst hK'
          refine ⟨fun h => ⟨rfl, ?_⟩, fun h => ?_⟩ <;> simp only [noLetter, okLetter, Bool.or_eq_false_iff, decide_eq_false_iff_not, Bool.or_eq_true, decide_eq_true_eq, Bool.and_eq_true, Bool.and_eq_false_iff] at h ⊢ <;> omega
        · have := decode_high s pos hps (by omega)
          rw [hR] at this
          simp only [noLetter, okLetter, Bool.or_eq_false_iff, decide_eq_false_iff_not, Bool.or_eq_true, decide_eq_true_eq, Bool.and_eq_true, Bool.and_eq_false_iff]
          omega
      rw [hR, hK] at hnx
      rw [hK] at hwd
      clear hR hK
      have hit2 := Lib.iterAt_heap wr w.heap.size s pos (pos + K) hit
      have hbw2 := Lib.below_iterAt hbw (k := w.heap.size) (Nat.le_refl _) s (pos + K)
      obtain ⟨W, hWd⟩ : ∃ W, wr.iterAt w.heap.size s (pos + K) = W := ⟨_, rfl⟩
      rw [hWd] at hnx hit2 hbw2
      clear hWd hit hbw
      have cS := isNoLetter_calls (R : Int) W
      change Calls Tryz.prog 114 #[.int .i32 (R : Int)] W (fun e w' => e = .returned (.bool (noLetter R)) ∧ w' = W) at cS
      cases hsp : noLetter R <;> rw [hsp] at cS <;> have HS := HL.out <;> rw [hsp] at HS <;> clear HL hsp
      · have HS' : Hid (K = 1 ∧ okLetter (s[pos]'hps) = true) := HS.1 rfl
        clear HS
        go_wp2_with (go_at_call 114; refine cS.mono ?_; rintro e W' ⟨rfl, rfl⟩)
        go_roundg g'
        case measure => omega
        case rel =>
          refine ⟨pos + K, hit2, hbw2, ?_, by omega⟩
          intro j h hj
          by_cases hjp : j < pos
          · exact HA.out j h hjp
          · have := HS'.out.1
            obtain rfl : j = pos := by omega
            exact HS'.out.2
      · have HS' : Hid (okLetter (s[pos]'hps) = false) := HS.2 rfl
        clear HS
        go_wp2_with (go_at_call 114; refine cS.mono ?_; rintro e W' ⟨rfl, rfl⟩)
        go_ret
        refine ⟨⟨_, rfl, ?_⟩, hbw2⟩
        rw [show decide (∀ j, (h : j < s.size) → okLetter (s[j]'h) = true) = false from by
          rw [decide_eq_false_iff_not]; intro hh; have := HS'.out; rw [hh pos hps] at this; cases this]
        simp
    · have hnx : ∀ ty, (Instr.next (.pointer (some ⟨w.heap.size, 0, none⟩)) true ty).run Tryz.prog wr = _ := fun ty => Lib.run_next_end_at wr w.heap.size s pos ty hit hps
      go_wp2
      go_ret
      refine ⟨⟨_, rfl, ?_⟩, hbw⟩
      rw [show decide (∀ j, (h : j < s.size) → okLetter (s[j]'h) = true) = true from by
          rw [decide_eq_true_eq]; intro j h; exact HA.out j h (by omega)]
      simp

set_option maxRecDepth 20000 in
set_option maxHeartbeats 400000 in
theorem IndexFuncS_calls (s : ByteArray) (w : World) :
    Calls Tryz.prog 151 #[.string s, .func (.func 114) #[] #[]] w fun e w' => (∃ i : Int, e = .returned (.int .i64 i) ∧ (decide (0 ≤ i) = !decide (∀ j, (h : j < s.size) → okLetter (s[j]'h) = true))) ∧ Below w.heap.size w w' := by
  go_enter Tryz.func151, Tryz.ntmps151
  go_wp2_with (go_at_call 161; refine (indexFunc_calls s w).mono ?_; rintro e W' ⟨⟨i, rfl, hi⟩, hb⟩)
  go_ret
  exact ⟨⟨i, rfl, hi⟩, hb⟩

set_option maxRecDepth 20000 in
set_option maxHeartbeats 400000 in
theorem ContainsFuncS_calls (s : ByteArray) (w : World) :
    Calls Tryz.prog 113 #[.string s, .func (.func 114) #[] #[]] w fun e w' => e = .returned (.bool (!decide (∀ j, (h : j < s.size) → okLetter (s[j]'h) = true))) ∧ Below w.heap.size w w' := by
  go_enter Tryz.func113, Tryz.ntmps113
  go_wp2_with (go_at_call 151; refine (IndexFuncS_calls s w).mono ?_; rintro e W' ⟨⟨i, rfl, hi⟩, hb⟩; have HI := hide hi; clear hi)
  go_ret
  refine ⟨retB (unhide HI), hb⟩

set_option maxRecDepth 20000 in
set_option maxHeartbeats 400000 in
theorem lacksPath_calls (a : Mo) (w : World) :
    Calls Tryz.prog 72 #[mv a] w fun e w' => e = .returned (.bool (!okPath a.1)) ∧ Below w.heap.size w w' := by
  obtain ⟨p, m⟩ := a
  unfold mv
  go_enter Tryz.func72, Tryz.ntmps72
  go_wp2_with (go_at_call 113; refine (ContainsFuncS_calls p _).mono ?_; rintro e W' ⟨rfl, hb⟩)
  · go_ret
    refine ⟨retB ?_, (below_one _ _).trans (hb.mono (by simp))⟩
    simp only [okPath]
    rw [Bool.eq_iff_iff]
    simp only [Bool.not_eq_true', decide_eq_false_iff_not, Bool.or_eq_true, decide_eq_true_eq]
    constructor
    · rintro ((h | h) | h) hh
      · omega
      · omega
      · exact h hh.1
    · intro h
      exact Or.inr (fun hh => h ⟨hh, by omega, by omega⟩)
  all_goals
    go_ret
    refine ⟨retB ?_, below_one _ _⟩
    simp only [okPath, Bool.true_eq, Bool.not_eq_true', decide_eq_false_iff_not]
    omega
end Go.Proofs.YtijpgamdpcgneaaGreat
