import Derived.Test.YtijpgamdpcgneaaGreatA
import Derived.Lib.OthersKept
import Derived.Deep.LoopGhost
import Derived.Lib.Strings
import Derived.Lib.BufferWrite
import Derived.Lib.UnsafeStr
import Derived.Laws.MakeOwn
namespace Go.Proofs.YtijpgamdpcgneaaGreat
open Go.RowKit

def orI (x y : Int) : Int := if x = 0 then y else x

set_option maxRecDepth 20000 in
set_option maxHeartbeats 400000 in
theorem or_calls (b : Nat) (x y : Int) (w : World) (h0 : w.cell? ⟨b, 0, none⟩ = some (.int .i64 x)) (h1 : w.cell? ⟨b, 1, none⟩ = some (.int .i64 y)) :
    Calls Tryz.prog 107 #[.slice (some ⟨b, 0, none⟩) 2 2] w fun e w' => e = .returned (.int .i64 (orI x y)) ∧ w' = w := by
  go_enter Tryz.func107, Tryz.ntmps107
  go_wp2
  go_loop [8] (fun i => i = .int .i64 0 ∨ (i = .int .i64 1 ∧ x = 0) ∨ (i = .int .i64 2 ∧ x = 0 ∧ y = 0)) (fun i => 2 - (intOf i).toNat)
  case atStart => exact Or.inl rfl
  case round =>
    rcases hrel with rfl | ⟨rfl, hx⟩ | ⟨rfl, hx, hy⟩
    · go_wp2
      · go_ret
        have hne : (x != 0) = true := by assumption
        refine ⟨retI ?_, rfl⟩
        simp [orI]
        intro e
        simp [e] at hne
      · have hne : (x != 0) = false := by assumption
        go_round
        case rel => exact Or.inr (Or.inl ⟨rfl, by simpa using hne⟩)
        case measure => simp [intOf]
    · have HX : Hid (x = 0) := hx
      clear hx
      go_wp2
      · go_ret
        refine ⟨retI ?_, rfl⟩
        simp [orI, HX.out]
      · have hne : (y != 0) = false := by assumption
        go_round
        case rel => exact Or.inr (Or.inr ⟨rfl, HX.out, by simpa using hne⟩)
        case measure => simp [intOf]
    · have HX : Hid (x = 0 ∧ y = 0) := ⟨hx, hy⟩
      clear hx hy
      go_wp2
      go_ret
      refine ⟨retI ?_, rfl⟩
      simp [orI, HX.out.1, HX.out.2]

set_option maxRecDepth 20000 in
set_option maxHeartbeats 400000 in
theorem path_calls (s : ByteArray) (hs : s.size ≤ 140737488355328) (w : World) :
    Calls Tryz.prog 125 #[.string s] w fun e w' => e = .returned (.bool (okPath s)) ∧ w' = w := by
  go_enter Tryz.func125, Tryz.ntmps125
  go_wp2
  go_loop [3] (fun i => ∃ k : Nat, k ≤ s.size ∧ i = .int .i64 k ∧ ∀ j (h : j < k) (h2 : j < s.size), okLetter s[j] = true) (fun i => s.size - (intOf i).toNat)
  case atStart => exact ⟨0, Nat.zero_le _, rfl, by omega⟩
  case round =>
    obtain ⟨k, hk, rfl, hall⟩ := hrel
    have HA : Hid (∀ j (h : j < k) (h2 : j < s.size), okLetter s[j] = true) := hall
    clear hall
    have bad : ∀ hlt : k < s.size, okLetter s[k] = false → okPath s = false := by
      intro hlt h
      simp only [okPath, decide_eq_false_iff_not]
      intro hh
      rw [hh.1 k hlt] at h
      cases h
    have BAD : Hid (∀ hlt : k < s.size, okLetter s[k] = false → okPath s = false) := bad
    clear bad
    go_wp2
    · go_ret
      refine ⟨retB ?_, rfl⟩
      rw [BAD.out (by assumption)]
      simp only [okLetter, Bool.and_eq_false_iff, decide_eq_false_iff_not]
      omega
    · go_round
      case rel =>
        refine ⟨k + 1, by omega, by go_num, ?_⟩
        intro j h h2
        by_cases hj : j < k
        · exact HA.out j hj h2
        · obtain rfl : j = k := by omega
          simp only [okLetter, Bool.and_eq_true, decide_eq_true_eq]
          omega
      case measure => simp [intOf]; omega
    · go_ret
      refine ⟨retB ?_, rfl⟩
      rw [BAD.out (by assumption)]
      simp only [okLetter, Bool.and_eq_false_iff, decide_eq_false_iff_not]
      omega
    · go_ret
      refine ⟨retB ?_, rfl⟩
      rw [Bool.eq_iff_iff]
      simp only [okPath, decide_eq_true_eq]
      constructor
      · intro h
        exact ⟨fun j h2 => HA.out j (by omega) h2, by omega, by omega⟩
      · intro h
        omega
    · go_ret
      refine ⟨retB ?_, rfl⟩
      rw [eq_comm]
      simp only [okPath, decide_eq_false_iff_not]
      omega

theorem Tryz.info5 : (Tryz.prog.info? 5).map (fun i => (i.zero, i.size, i.bytes)) = some (some (Value.int IntKind.u8 0), 1, 1) := by kernel_rfl

set_option maxRecDepth 20000 in
set_option maxHeartbeats 4000000 in
set_option maxRecDepth 100000 in
theorem clone_calls (s : ByteArray) (w : World) (hlim : s.size ≤ 281474976710656) :
    Calls Tryz.prog 127 #[.string s] w fun e w' => e = .returned (.string s) ∧ Below w.heap.size w w' := by
  by_cases h0 : s.size = 0
  · have hs : s = ⟨#[]⟩ := by
      apply ByteArray.ext
      exact Array.eq_empty_of_size_eq_zero h0
    subst hs
    go_enter Tryz.func127, Tryz.ntmps127
    go_wp2
    go_ret
    exact ⟨rfl, Below.refl _ _⟩
  · obtain ⟨i0, hi, hz0, hz1, hz2⟩ := info_parts Tryz.info5
    have hinfo : (Tryz.prog.info? 5).map (·.size) = some 1 := by rw [hi]; simp [hz1]
    have hco : Tryz.prog.cellsOf 5 = 1 := by simp [Program.cellsOf, hi, hz1]
    obtain ⟨M, hM⟩ : ∃ M, M = madeCells (Value.int .u8 0).cells (((s.size : Nat) : Int).toNat * i0.size) := ⟨_, rfl⟩
    have hMs : M.size = s.size := by rw [hM, size_madeCells, hz1]; simp
    have hmk : ∀ W : World, (Instr.makeSlice 212 (.int .i64 (s.size : Int)) (.int .i64 (s.size : Int))).run Tryz.prog W = .ok (.slice (some ⟨W.heap.size, 0, none⟩) s.size s.size) (W.alloc (.cells M 5)) := fun W => by
      have h := run_make (P := Tryz.prog) W 212 5 i0 (.int .u8 0) Tryz.underlying212 hi hz0 .i64 .i64 (s.size : Int) (s.size : Int) (by omega) (by omega) (by rw [hz2]; omega) (by omega)
      rw [← hM] at h
      simpa using h
    clear hM
    have hcp := Lib.run_copy_row_string (P := Tryz.prog) (w.alloc (.cells M 5)) 212 9 3 5 w.heap.size 0 s.size s.size s M 5 Tryz.underlying212 hinfo (heap_alloc_new w _) (Nat.le_refl _) (by omega)
    obtain ⟨Y, hY⟩ : ∃ Y, Y = (M.toList.take 0 ++ Lib.byteCells s.data.toList ++ M.toList.drop (0 + s.size)).toArray := ⟨_, rfl⟩
    rw [← hY] at hcp
    have hYl : Y.toList = Lib.byteCells s.data.toList := by
      rw [hY, List.toList_toArray, List.take_zero, List.nil_append, List.drop_of_length_le (by rw [Array.length_toList]; omega), List.append_nil]
    have hYs : Y.size = s.size := by rw [← Array.length_toList, hYl, Lib.byteCells_length, ← Lib.size_eq]
    have hgY : ((w.alloc (.cells M 5)).setRow w.heap.size Y).heap[w.heap.size]? = some (.cells Y 5 (0, 0)) := setRow_heap _ _ M _ 5 (0, 0) (heap_alloc_new w _)
    have hne : s.data.toList ≠ [] := fun e => h0 (by rw [Lib.size_eq, e]; rfl)
    have hUS := Lib.run_unsafeString_row (P := Tryz.prog) ((w.alloc (.cells M 5)).setRow w.heap.size Y) 213 3 9 5 Tryz.underlying213 hco w.heap.size Y.size (by unfold World.shape?; rw [hgY]) s.data.toList hne (by rw [← Lib.size_eq]; omega) (by rw [← Lib.size_eq]; omega)
      (fun j x hx => Lib.cells_of_row hgY Y.size j _ (by rw [List.take_of_length_le (by rw [Array.length_toList]; exact Nat.le_refl _), hYl]; simp [Lib.byteCells, hx]))
    rw [← Lib.size_eq] at hUS
    clear hY
    go_enter Tryz.func127, Tryz.ntmps127
    go_wp2
    go_ret
    have hb1 : Below w.heap.size w (w.alloc (.cells M 5)) := (Below.refl _ w).alloc (Nat.le_refl _) _
    have hb2 : Below w.heap.size (w.alloc (.cells M 5)) ((w.alloc (.cells M 5)).setRow w.heap.size Y) := ⟨rfl, rfl, rfl, by simp, fun k hk => setRow_other _ _ _ _ (by omega)⟩
    exact ⟨rfl, Lib.below_freeze (hb1.trans hb2) (p := ⟨w.heap.size, 0, none⟩) (Nat.le_refl _) _⟩

set_option maxRecDepth 20000 in
set_option maxHeartbeats 400000 in
theorem Clone_calls (s : ByteArray) (w : World) (hlim : s.size ≤ 281474976710656) :
    Calls Tryz.prog 88 #[.string s] w fun e w' => e = .returned (.string s) ∧ Below w.heap.size w w' := by
  go_enter Tryz.func88, Tryz.ntmps88
  go_wp2_with (go_at_call 127; refine (clone_calls s w hlim).mono ?_; rintro e W' ⟨rfl, hb⟩)
  go_ret
  exact ⟨rfl, hb⟩
end Go.Proofs.YtijpgamdpcgneaaGreat
