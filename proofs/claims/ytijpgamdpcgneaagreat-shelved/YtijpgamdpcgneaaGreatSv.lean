import Derived.Test.YtijpgamdpcgneaaGreatSu
import Derived.Test.YtijpgamdpcgneaaGreatEn
namespace Go.Proofs.YtijpgamdpcgneaaGreat
open Go.RowKit Go.MapKept

/-- A step's list, in a block that is nobody's; an empty one may be anywhere. -/
def OpL (w : World) (tag : Nat → Nat) (lv : Value) (xs : List Mo) : Prop :=
  (lv = .slice none 0 0 ∧ xs = []) ∨ (∃ b off vc, lv = .slice (some ⟨b, off, none⟩) xs.length vc ∧ b < w.heap.size ∧ tag b = 0 ∧ LstAt w lv xs) ∨ ∃ ad vc, lv = .slice (some ad) 0 vc ∧ xs = []

/-- What a step of a script may be. -/
structure Ok (kind s : Int) (m : Mo) (xs : List Mo) : Prop where
  k5 : kind ≤ 5
  s1 : -9223372036854775808 ≤ s
  s2 : s ≤ 9223372036854775807
  ps : ∀ q ∈ m :: xs, q.1.size ≤ 140737488355328
  ln : xs.length * 24 ≤ 140737488351232

theorem step_calls (hM : ModsSaid) (tag : Nat → Nat) (y N : Nat) (pv : Value) (shs : List Shl) (k : Nat) (kind s : Int) (m : Mo) (lv : Value) (xs : List Mo) (hok : Ok kind s m xs) (w : World) (h : Py w tag y N pv shs k) (hk : (k + 1) * 24 ≤ 140737488355328) (hl : (shs.length + 1) * 16 ≤ 140737488355328) (hlv : OpL w tag lv xs) :
    Calls Tryz.prog 30 #[.pointer (some ⟨y, 0, none⟩), opv kind s m lv] w fun r w' => r = .returned (.bool true) ∧ Stp w tag y N shs k w' := by
  obtain ⟨la, ln, lcp, rfl⟩ : ∃ la ln lcp, lv = .slice la ln lcp := by
    rcases hlv with ⟨h0, _⟩ | ⟨b, off, vc, h0, _⟩ | ⟨ad, vc, h0, _⟩ <;> exact ⟨_, _, _, h0⟩
  by_cases h1 : kind = 1
  · subst h1
    exact step_new tag y N pv shs k s m la ln lcp w h hl
  by_cases hi : shs = [] ∨ kind < 2
  · exact step_idle tag y N pv shs k kind s m la ln lcp w h h1 hi
  have hne : shs ≠ [] := fun e => hi (Or.inl e)
  have hk2 : 2 ≤ kind := by
    have : ¬ kind < 2 := fun e => hi (Or.inr e)
    omega
  have hk5 := hok.k5
  refine step_shelved tag y N pv shs k kind s hok.s1 hok.s2 m la ln lcp w h (List.length_pos_iff.2 hne) (by omega) hk2 hk5 ?_
  intro i q W hq hW
  have hst := (h.below hW).st hq
  have hcase : kind = 2 ∨ kind = 3 ∨ kind = 4 ∨ kind = 5 := by omega
  rcases hcase with rfl | rfl | rfl | rfl
  · rcases hlv with ⟨h0, rfl⟩ | ⟨b, off, vc, h0, hbl, hbt, hat⟩ | ⟨ad, vc, h0, rfl⟩
    · rw [h0]
      exact shelved_publish_nil _ _ _ y q.x q.c pv k q.ents s m (hok.ps m (by simp)) W hst
    · rw [h0] at hat ⊢
      refine shelved_publish hM _ _ _ y q.x q.c pv k hk q.ents s m b off vc xs hok.ps hok.ln W hst ?_ (by have := hW.size; omega) ⟨by show ¬ tag b = _; omega, by show ¬ tag b = _; omega, by show ¬ tag b = _; omega, by rintro rfl; have := h.ty; omega⟩
      exact hat.below hW (fun b' off' l' c' e => by cases e; exact hbl)
    · rw [h0]
      exact shelved_publish_empty hM _ _ _ y q.x q.c pv k hk q.ents s m ad vc (hok.ps m (by simp)) W hst
  · exact shelved_retract _ _ _ y q.x q.c pv k q.ents s m la ln lcp W hst
  · exact shelved_latest _ _ _ y q.x q.c pv k q.ents s m la ln lcp W hst
  · exact shelved_needs hM _ _ _ y q.x q.c pv k hk q.ents s m la ln lcp W hst

theorem new_at (W : World) (o : Obj) (n : Nat) (h : W.heap.size = n) : (W.alloc o).heap[n]? = some o := by
  subst h
  exact heap_alloc_new W o

/-- The steps ahead of each script. -/
def headOps : List (Int × Mo × List Mo) :=
  [(1, (⟨#[]⟩, 0), []), (2, (⟨#[98]⟩, 2), []), (2, (⟨#[97]⟩, 1), [(⟨#[98]⟩, 2)]), (5, (⟨#[97]⟩, 1), []), (4, (⟨#[98]⟩, 2), [])]

set_option maxRecDepth 20000 in
set_option maxHeartbeats 2000000 in
theorem head_calls (w : World) :
    Calls Tryz.prog 29 #[] w fun e w' => e = .returned (.slice (some ⟨w.heap.size + 3, 0, none⟩) 5 5) ∧ Below w.heap.size w w' ∧ w'.heap[w.heap.size + 2]? = some (.cells #[.string ⟨#[98]⟩, .int .i64 2] 33 (0, 0)) ∧
      w'.heap[w.heap.size + 3]? = some (.cells #[.int .i64 1, .int .i64 0, .string ⟨#[]⟩, .int .i64 0, .slice none 0 0, .int .i64 2, .int .i64 0, .string ⟨#[98]⟩, .int .i64 2, .slice none 0 0, .int .i64 2, .int .i64 0, .string ⟨#[97]⟩, .int .i64 1, .slice (some ⟨w.heap.size + 2, 0, none⟩) 1 1, .int .i64 5, .int .i64 0, .string ⟨#[97]⟩, .int .i64 1, .slice none 0 0, .int .i64 4, .int .i64 0, .string ⟨#[98]⟩, .int .i64 2, .slice none 0 0] 63 (0, 0)) := by
  go_enter Tryz.func29, Tryz.ntmps29
  go_wp2
  go_ret
  refine ⟨rfl, ?_, ?_, ?_⟩
  · exact ((below_two w _ _).alloc (by simp <;> omega) _).alloc (by simp <;> omega) _
  · rw [Below.heap_alloc _ _ _ (by simp)]
    have := heap_alloc_new ((w.alloc (.cells #[.string ⟨#[97]⟩, .int .i64 1] 33)).alloc (.cells #[.string ⟨#[98]⟩, .int .i64 2] 33)) (.cells #[.string ⟨#[98]⟩, .int .i64 2] 33)
    simpa using this
  · exact new_at _ _ _ (by simp)
end Go.Proofs.YtijpgamdpcgneaaGreat
