import Derived.Test.YtijpgamdpcgneaaGreatWh
namespace Go.Proofs.YtijpgamdpcgneaaGreat
open Go.RowKit

/-- What (*book).mods does: the list is its owner's, written full of a mark of its own. -/
def ModsSaid : Prop := ∀ (F : Nat → Prop) (y : Nat) (ps : Value) (k : Nat) (la : Option Addr) (n lc : Nat) (w : World), (k + 1) * 24 ≤ 140737488355328 → (n + 3) * 24 ≤ 140737488355328 → Bk w F y ps k → (∀ j, F j → j < w.heap.size) → ¬ F y →
    Shp w (.slice la n lc) n → (∀ g, (Value.slice la n lc).ownBlock = some g → ¬ F g ∧ g ≠ y) →
    Calls Tryz.prog 118 #[.pointer (some ⟨y, 1, none⟩), .slice la n lc] w fun e w' => e = .returned (.tuple #[]) ∧ Bk w' (fun j => F j ∨ (Value.slice la n lc).ownBlock = some j ∨ (w.heap.size ≤ j ∧ j < w'.heap.size)) y ps (k + 1) ∧ Upd (fun j => F j ∨ j = y ∨ (Value.slice la n lc).ownBlock = some j) w w'

set_option maxRecDepth 20000 in
set_option maxHeartbeats 2000000 in
theorem told_calls (hM : ModsSaid) (F : Nat → Prop) (y : Nat) (ps : Value) (k : Nat) (la : Option Addr) (n lc : Nat) (xs : List Mo) (hxn : xs.length = n) (e : Int) (m : Value) (ys : List Mo) (f : Int) (w : World)
    (hk : (k + 1) * 24 ≤ 140737488355328) (hn : (n + 3) * 24 ≤ 140737488355328) (hy : ys.length ≤ 140737488355328) (hbk : Bk w F y ps k) (hF : ∀ j, F j → j < w.heap.size) (hFy : ¬ F y)
    (hs : Shp w (.slice la n lc) n) (hd : ∀ g, (Value.slice la n lc).ownBlock = some g → ¬ F g ∧ g ≠ y) (hl : LstAt w (.slice la n lc) xs) (hm : LstAt w m ys) :
    Calls Tryz.prog 82 #[.pointer (some ⟨y, 0, none⟩), .slice la n lc, .int .i64 e, m, .int .i64 f] w fun r w' => r = .returned (.bool (eqMs xs ys && (e == f))) ∧ Bk w' (fun j => F j ∨ (Value.slice la n lc).ownBlock = some j ∨ (w.heap.size ≤ j ∧ j < w'.heap.size)) y ps (k + 1) ∧ Upd (fun j => F j ∨ j = y ∨ (Value.slice la n lc).ownBlock = some j) w w' := by
  have hyl : y < w.heap.size := by
    obtain ⟨ba, bc, svs, h1, _⟩ := hbk
    exact (Array.getElem?_eq_some_iff.1 h1).1
  have cS := sameMods_calls (.slice la n lc) m xs ys (by omega) hy w hl hm
  obtain ⟨ma, mc, rfl⟩ := hm.length
  have HB := hide hbk
  have HS := hide hs
  have HD := hide hd
  obtain ⟨q, hq⟩ : ∃ q, eqMs xs ys = q := ⟨_, rfl⟩
  rw [hq] at cS ⊢
  clear hbk hs hd hl hm hq
  go_enter Tryz.func82, Tryz.ntmps82
  go_wp2_with fail
  refine cS.mono ?_
  rintro r W1 ⟨rfl, hb1⟩
  clear cS
  have hs1 := hb1.size
  have cM := hM F y ps k la n lc W1 hk hn ((unhide HB).of_blocks (hb1.block y hyl) (fun j hj => hb1.block j (hF j hj))) (fun j hj => by have := hF j hj; omega) hFy ((unhide HS).of_block (fun g hg => hb1.block g ((unhide HS).lt g hg))) (unhide HD)
  go_wp2_with fail
  refine cM.mono ?_
  rintro r W2 ⟨rfl, hbk2, hu2⟩
  clear cM
  have hs2 := hu2.size
  have HB2 := hide (hbk2.mono (F' := fun j => F j ∨ (Value.slice la n lc).ownBlock = some j ∨ (w.heap.size ≤ j ∧ j < W2.heap.size)) (fun j hj => by
    rcases hj with h | h | ⟨h, h'⟩
    · exact Or.inl h
    · exact Or.inr (Or.inl h)
    · exact Or.inr (Or.inr ⟨by omega, h'⟩)))
  have HU2 := hide ((Upd.of_below (S := fun j => F j ∨ j = y ∨ (Value.slice la n lc).ownBlock = some j) hb1).trans hu2)
  clear hbk2 hu2
  cases q
  · go_wp2
    go_ret
    exact ⟨retB (by simp), unhide HB2, unhide HU2⟩
  · go_wp2
    go_ret
    exact ⟨retB (by simp), unhide HB2, unhide HU2⟩
end Go.Proofs.YtijpgamdpcgneaaGreat
