import Derived.Test.YtijpgamdpcgneaaGreatProg
import Derived.WalkKit
import Derived.WalkSpells
import Derived.WalkLawsBesides
namespace Go.Proofs.YtijpgamdpcgneaaGreat
open Go.RowKit

/-- A module: a path and a version. -/
abbrev Mo := ByteArray × Int
def mv (m : Mo) : Value := .agg #[.string m.1, .int .i64 m.2]
def lessM (a b : Mo) : Bool := Op.bytesLess a.1.toList b.1.toList || (a.1.toList == b.1.toList && decide (a.2 < b.2))
def eqM (a b : Mo) : Bool := a.1.toList == b.1.toList && a.2 == b.2
def okVersion (n : Int) : Bool := decide (1 ≤ n) && decide (n ≤ 99)
def okLetter (c : UInt8) : Bool := decide (97 ≤ c.toNat) && decide (c.toNat ≤ 122)
def okPath (p : ByteArray) : Bool := decide ((∀ j, (h : j < p.size) → okLetter (p[j]'h) = true) ∧ 1 ≤ p.size ∧ p.size ≤ 8)
def cmpInt (a b : Int) : Int := if a < b then -1 else if b < a then 1 else 0
def cmpStr (a b : ByteArray) : Int := if Op.bytesLess a.toList b.toList then -1 else if a.toList = b.toList then 0 else 1

theorem hide {p : Prop} (h : p) : Hid p := h
theorem unhide {p : Prop} (h : Hid p) : p := h
theorem retB {b b' : Bool} (h : b = b') : Ending.returned (.bool b) = .returned (.bool b') := by rw [h]
theorem retI {b b' : Int} (h : b = b') : Ending.returned (.int .i64 b) = .returned (.int .i64 b') := by rw [h]

set_option maxRecDepth 20000 in
set_option maxHeartbeats 400000 in
theorem version_calls (n : Int) (w : World) :
    Calls Tryz.prog 126 #[.int .i64 n] w fun e w' => e = .returned (.bool (okVersion n)) ∧ w' = w := by
  go_enter Tryz.func126, Tryz.ntmps126
  go_wp2
  all_goals (go_ret; refine ⟨?_, rfl⟩; simp [okVersion, *]; try omega)

set_option maxRecDepth 20000 in
set_option maxHeartbeats 400000 in
theorem isNoLetter_calls (n : Int) (w : World) :
    Calls Tryz.prog 114 #[.int .i32 n] w fun e w' => e = .returned (.bool (decide (n < 97) || decide (122 < n))) ∧ w' = w := by
  go_enter Tryz.func114, Tryz.ntmps114
  go_wp2
  all_goals (go_ret; refine ⟨?_, rfl⟩; simp [*]; try omega)

theorem below_two (w : World) (o o2 : Obj) : Below w.heap.size w ((w.alloc o).alloc o2) :=
  ((Below.refl _ w).alloc (Nat.le_refl _) o).alloc (by simp) o2

theorem below_one (w : World) (o : Obj) : Below w.heap.size w (w.alloc o) :=
  (Below.refl _ w).alloc (Nat.le_refl _) o

set_option maxRecDepth 20000 in
set_option maxHeartbeats 400000 in
theorem less_calls (a b : Mo) (w : World) :
    Calls Tryz.prog 152 #[mv a, mv b] w fun e w' => e = .returned (.bool (lessM a b)) ∧ Below w.heap.size w w' := by
  obtain ⟨p, m⟩ := a
  obtain ⟨q, n⟩ := b
  unfold mv
  go_enter Tryz.func152, Tryz.ntmps152
  go_wp2
  all_goals (go_ret; refine ⟨?_, below_two _ _ _⟩; simp_all [lessM])

set_option maxRecDepth 20000 in
set_option maxHeartbeats 400000 in
theorem lacksVersion_calls (a : Mo) (w : World) :
    Calls Tryz.prog 73 #[mv a] w fun e w' => e = .returned (.bool (!okVersion a.2)) ∧ Below w.heap.size w w' := by
  obtain ⟨p, m⟩ := a
  unfold mv
  go_enter Tryz.func73, Tryz.ntmps73
  go_wp2
  all_goals (go_ret; refine ⟨retB ?_, below_one _ _⟩; rw [Bool.eq_iff_iff]; simp [okVersion]; try omega)

set_option maxRecDepth 20000 in
set_option maxHeartbeats 400000 in
theorem isNaNs_calls (s : ByteArray) (w : World) :
    Calls Tryz.prog 148 #[.string s] w fun e w' => e = .returned (.bool false) ∧ w' = w := by
  go_enter Tryz.func148, Tryz.ntmps148
  go_wp2
  all_goals (go_ret; refine ⟨?_, rfl⟩; simp)

set_option maxRecDepth 20000 in
set_option maxHeartbeats 400000 in
theorem isNaNi_calls (s : Int) (w : World) :
    Calls Tryz.prog 149 #[.int .i64 s] w fun e w' => e = .returned (.bool false) ∧ w' = w := by
  go_enter Tryz.func149, Tryz.ntmps149
  go_wp2
  all_goals (go_ret; refine ⟨?_, rfl⟩; simp)

set_option maxRecDepth 20000 in
set_option maxHeartbeats 400000 in
theorem cmps_calls (a b : ByteArray) (w : World) :
    Calls Tryz.prog 108 #[.string a, .string b] w fun e w' => e = .returned (.int .i64 (cmpStr a b)) ∧ w' = w := by
  go_enter Tryz.func108, Tryz.ntmps108
  go_wp2
  all_goals (go_ret; refine ⟨?_, rfl⟩; simp_all [cmpStr])

set_option maxRecDepth 20000 in
set_option maxHeartbeats 400000 in
theorem cmpi_calls (a b : Int) (w : World) :
    Calls Tryz.prog 109 #[.int .i64 a, .int .i64 b] w fun e w' => e = .returned (.int .i64 (cmpInt a b)) ∧ w' = w := by
  go_enter Tryz.func109, Tryz.ntmps109
  go_wp2
  all_goals (go_ret; refine ⟨?_, rfl⟩; simp_all [cmpInt]; try omega)

set_option maxRecDepth 20000 in
set_option maxHeartbeats 400000 in
theorem pick_calls (c n : Int) (h1 : -9223372036854775808 ≤ c) (h2 : c ≤ 9223372036854775807) (hn : 0 < n) (hn2 : n ≤ 140737488355328) (w : World) :
    Calls Tryz.prog 48 #[.int .i64 c, .int .i64 n] w fun e w' => (∃ k : Nat, (k : Int) < n ∧ e = .returned (.int .i64 k)) ∧ w' = w := by
  go_enter Tryz.func48, Tryz.ntmps48
  go_wp2
  · go_ret
    have e : -(c + 1).tmod n = (-(c + 1)) % n := by
      rw [← Int.neg_tmod, Int.tmod_eq_emod_of_nonneg (by omega)]
    have h3 := Int.emod_lt_of_pos (-(c + 1)) hn
    have h4 := Int.emod_nonneg (-(c + 1)) (b := n) (by omega)
    refine ⟨⟨((-(c + 1)) % n).toNat, by omega, retI ?_⟩, rfl⟩
    rw [e, Int.toNat_of_nonneg h4]
  · go_ret
    have h3 := Int.emod_lt_of_pos c hn
    have h4 := Int.emod_nonneg c (b := n) (by omega)
    refine ⟨⟨(c % n).toNat, by omega, retI ?_⟩, rfl⟩
    rw [Int.toNat_of_nonneg h4]

set_option maxRecDepth 20000 in
set_option maxHeartbeats 400000 in
theorem mark_calls (i : Int) (hi : 0 ≤ i) (hi2 : i ≤ 140737488355328) (w : World) :
    Calls Tryz.prog 51 #[.int .i64 i] w fun e w' => e = .returned (mv (⟨#[77, 105, 110, 101, 33]⟩, -7070 - i)) ∧ Below w.heap.size w w' := by
  go_enter Tryz.func51, Tryz.ntmps51
  go_wp2
  refine bodyPost_ret (v := mv (⟨#[77, 105, 110, 101, 33]⟩, -7070 - i)) ?_ rfl ⟨rfl, below_one _ _⟩
  simp [results, Tryz.results51, go_sem, mv]
end Go.Proofs.YtijpgamdpcgneaaGreat
