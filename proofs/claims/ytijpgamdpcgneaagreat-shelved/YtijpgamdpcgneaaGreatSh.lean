import Derived.Test.YtijpgamdpcgneaaGreatRe
namespace Go.Proofs.YtijpgamdpcgneaaGreat
open Go.RowKit Go.MapKept

/-- A pair of shelves of one content, and the book, in blocks of their own. -/
structure St (w : World) (FX FC FB : Nat → Prop) (y x c : Nat) (ps : Value) (k : Nat) (ents : List En) : Prop where
  px : PSh w FX x ents
  rc : RSh w FC c ents
  bk : Bk w FB y ps k
  lx : ∀ j, FX j → j < w.heap.size
  lc : ∀ j, FC j → j < w.heap.size
  lb : ∀ j, FB j → j < w.heap.size
  dxc : ∀ j, FX j → ¬ FC j
  dxb : ∀ j, FX j → ¬ FB j
  dcb : ∀ j, FC j → ¬ FB j
  yx : ¬ FX y
  yc : ¬ FC y
  yb : ¬ FB y
  g60 : ents.length ≤ 60
  g6 : ∀ e ∈ ents, e.needs.length ≤ 6

theorem St.ylt {w : World} {FX FC FB : Nat → Prop} {y x c : Nat} {ps : Value} {k : Nat} {ents : List En} (h : St w FX FC FB y x c ps k ents) : y < w.heap.size := by
  obtain ⟨ba, bc, svs, h1, _⟩ := h.bk
  exact (Array.getElem?_eq_some_iff.1 h1).1

/-- A world that has only grown. -/
theorem St.below {w w' : World} {FX FC FB : Nat → Prop} {y x c : Nat} {ps : Value} {k : Nat} {ents : List En} (h : St w FX FC FB y x c ps k ents) (hb : Below w.heap.size w w') : St w' FX FC FB y x c ps k ents :=
  ⟨h.px.of_blocks (fun j hj => hb.block j (h.lx j hj)), h.rc.of_blocks (fun j hj => hb.block j (h.lc j hj)), h.bk.of_blocks (hb.block y h.ylt) (fun j hj => hb.block j (h.lb j hj)),
   fun j hj => Nat.lt_of_lt_of_le (h.lx j hj) hb.size, fun j hj => Nat.lt_of_lt_of_le (h.lc j hj) hb.size, fun j hj => Nat.lt_of_lt_of_le (h.lb j hj) hb.size, h.dxc, h.dxb, h.dcb, h.yx, h.yc, h.yb, h.g60, h.g6⟩

/-- What a step leaves. -/
def Left (w : World) (FX FC FB : Nat → Prop) (y x c : Nat) (ps : Value) (k : Nat) (w' : World) : Prop :=
  ∃ (FX' FC' FB' : Nat → Prop) (k' : Nat) (ents' : List En), St w' FX' FC' FB' y x c ps k' ents' ∧ k' ≤ k + 1 ∧ (∀ j, FX' j ∨ FC' j ∨ FB' j → (FX j ∨ FC j ∨ FB j) ∨ w.heap.size ≤ j) ∧ Upd (fun j => FX j ∨ FC j ∨ FB j ∨ j = y) w w'

theorem retractE_good {ents : List En} {m : Mo} (h : ents.length ≤ 60) (h6 : ∀ e ∈ ents, e.needs.length ≤ 6) : (retractE ents m).2.length ≤ 60 ∧ ∀ e ∈ (retractE ents m).2, e.needs.length ≤ 6 := by
  unfold retractE
  split
  · exact ⟨h, h6⟩
  · split
    · exact ⟨h, h6⟩
    · rename_i e he
      split
      · exact ⟨h, h6⟩
      · refine ⟨by simpa using h, ?_⟩
        intro e' he'
        rcases List.mem_or_eq_of_mem_set he' with h' | rfl
        · exact h6 e' h'
        · exact h6 e (List.mem_of_getElem? he)

/-- The step's value as it is handed on. -/
def opv (kind s : Int) (m : Mo) (lv : Value) : Value := .agg #[.int .i64 kind, .int .i64 s, .string m.1, .int .i64 m.2, lv]

theorem two_new (w : World) (P O : Obj) : ((w.alloc P).alloc O).heap[w.heap.size]? = some P ∧ ((w.alloc P).alloc O).heap[w.heap.size + 1]? = some O := by
  constructor
  · rw [Below.heap_alloc _ _ _ (by simp)]
    exact heap_alloc_new w P
  · have := heap_alloc_new (w.alloc P) O
    simpa using this

/-- The cells of the pair and of the step, while their blocks stand. -/
def Held (w W : World) (x c : Nat) (kind s : Int) (m : Mo) (lv : Value) : Prop :=
  W.heap[w.heap.size]? = some (.cells #[.pointer (some ⟨x, 0, none⟩), .pointer (some ⟨c, 0, none⟩)] 98 (0, 0)) ∧ W.heap[w.heap.size + 1]? = some (.cells #[.int .i64 kind, .int .i64 s, .string m.1, .int .i64 m.2, lv] 63 (0, 0))

theorem Held.cells {w W : World} {x c : Nat} {kind s : Int} {m : Mo} {lv : Value} (h : Held w W x c kind s m lv) :
    W.cell? ⟨w.heap.size, 0, none⟩ = some (.pointer (some ⟨x, 0, none⟩)) ∧ W.cell? ⟨w.heap.size, 1, none⟩ = some (.pointer (some ⟨c, 0, none⟩)) ∧
    W.cell? ⟨w.heap.size + 1, 2, none⟩ = some (.string m.1) ∧ W.cell? ⟨w.heap.size + 1, 3, none⟩ = some (.int .i64 m.2) ∧ W.cell? ⟨w.heap.size + 1, 4, none⟩ = some lv := by
  refine ⟨?_, ?_, ?_, ?_, ?_⟩
  · rw [cell_of_block h.1]; rfl
  · rw [cell_of_block h.1]; rfl
  · rw [cell_of_block h.2]; rfl
  · rw [cell_of_block h.2]; rfl
  · rw [cell_of_block h.2]; rfl

theorem Held.keep {w W W' : World} {x c : Nat} {kind s : Int} {m : Mo} {lv : Value} {S : Nat → Prop} (h : Held w W x c kind s m lv) (hu : Upd S W W') (hS : ∀ j, S j → j ≠ w.heap.size ∧ j ≠ w.heap.size + 1) : Held w W' x c kind s m lv :=
  ⟨(hu.block _ (Array.getElem?_eq_some_iff.1 h.1).1 (fun e => (hS _ e).1 rfl)).trans h.1, (hu.block _ (Array.getElem?_eq_some_iff.1 h.2).1 (fun e => (hS _ e).2 rfl)).trans h.2⟩

set_option maxRecDepth 20000 in
set_option maxHeartbeats 4000000 in
theorem shelved_retract (FX FC FB : Nat → Prop) (y x c : Nat) (ps : Value) (k : Nat) (ents : List En) (s : Int) (m : Mo) (la : Option Addr) (ln lcp : Nat) (w : World) (h : St w FX FC FB y x c ps k ents) :
    Calls Tryz.prog 49 #[.pointer (some ⟨y, 0, none⟩), .agg #[.pointer (some ⟨x, 0, none⟩), .pointer (some ⟨c, 0, none⟩)], opv 3 s m (.slice la ln lcp)] w fun r w' => r = .returned (.bool true) ∧ Left w FX FC FB y x c ps k w' := by
  unfold opv
  have hb0 : Below w.heap.size w ((w.alloc (.cells #[.pointer (some ⟨x, 0, none⟩), .pointer (some ⟨c, 0, none⟩)] 98)).alloc (.cells #[.int .i64 3, .int .i64 s, .string m.1, .int .i64 m.2, .slice la ln lcp] 63)) := below_two _ _ _
  have h0 := h.below hb0
  have hh0 : Held w _ x c 3 s m (.slice la ln lcp) := two_new w (.cells #[.pointer (some ⟨x, 0, none⟩), .pointer (some ⟨c, 0, none⟩)] 98) (.cells #[.int .i64 3, .int .i64 s, .string m.1, .int .i64 m.2, .slice la ln lcp] 63)
  have hz0 : ((w.alloc (.cells #[.pointer (some ⟨x, 0, none⟩), .pointer (some ⟨c, 0, none⟩)] 98)).alloc (.cells #[.int .i64 3, .int .i64 s, .string m.1, .int .i64 m.2, .slice la ln lcp] 63)).heap.size = w.heap.size + 2 := by simp
  have cR := Retract_calls _ FX x ents m h0.px h0.lx
  simp only [mv] at cR
  obtain ⟨er, her⟩ : ∃ er, (retractE ents m).1 = er := ⟨_, rfl⟩
  rw [her] at cR
  have HER := hide her
  have H0 := hide h0
  have HH := hide h
  have HHE := hide hh0
  have HZ := hide hz0
  have HB0 := hide hb0
  clear h h0 her hh0 hz0 hb0
  go_enter Tryz.func49, Tryz.ntmps49
  go_wp2_with fail
  refine cR.mono ?_
  rintro r W1 ⟨rfl, hp1, hu1⟩
  clear cR
  have hh1 := (unhide HHE).keep hu1 (fun j hj => by have := (unhide HH).lx j hj; omega)
  have hs1 := hu1.size
  rw [unhide HZ] at hs1
  obtain ⟨a0, a1, a2, a3, a4⟩ := hh1.cells
  have cC := RRetract_calls W1 FC c ents (unhide HH).g60 m ((unhide H0).rc.of_blocks (fun j hj => hu1.block j ((unhide H0).lc j hj) (fun e => (unhide HH).dxc j e hj))) (fun j hj => by have := (unhide HH).lc j hj; omega)
  simp only [mv] at cC
  rw [unhide HER] at cC
  have HP1 := hide hp1
  have HU1 := hide hu1
  clear hp1 hu1 hh1
  go_wp2_with fail
  refine cC.mono ?_
  rintro r W2 ⟨rfl, hr2, hu2⟩
  clear cC
  have HR2 := hide hr2
  have HU2 := hide hu2
  clear hr2 hu2
  go_wp2
  go_ret
  refine ⟨rfl, FX, FC, FB, k, (retractE ents m).2, ?_, by omega, fun j hj => Or.inl hj, ?_⟩
  · have hh := unhide HH
    have hgood := retractE_good (m := m) hh.g60 hh.g6
    have hs2 := (unhide HU2).size
    exact ⟨(unhide HP1).of_blocks (fun j hj => (unhide HU2).block j (by have := hh.lx j hj; omega) (fun e => hh.dxc j hj e)), unhide HR2,
      ((unhide H0).bk).of_blocks ((((unhide HU2).block y (by have := hh.ylt; omega) hh.yc)).trans ((unhide HU1).block y (unhide H0).ylt hh.yx)) (fun j hj => ((unhide HU2).block j (by have := hh.lb j hj; omega) (fun e => hh.dcb j e hj)).trans ((unhide HU1).block j ((unhide H0).lb j hj) (fun e => hh.dxb j e hj))),
      fun j hj => by have := hh.lx j hj; omega, fun j hj => by have := hh.lc j hj; omega, fun j hj => by have := hh.lb j hj; omega, hh.dxc, hh.dxb, hh.dcb, hh.yx, hh.yc, hh.yb, hgood.1, hgood.2⟩
  · exact ((Upd.of_below (unhide HB0)).trans ((unhide HU1).mono (fun j _ hj => Or.inl hj))).trans ((unhide HU2).mono (fun j _ hj => Or.inr (Or.inl hj)))
end Go.Proofs.YtijpgamdpcgneaaGreat
