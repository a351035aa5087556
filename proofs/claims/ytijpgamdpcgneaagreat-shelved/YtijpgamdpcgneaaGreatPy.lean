import Derived.Test.YtijpgamdpcgneaaGreatSl
namespace Go.Proofs.YtijpgamdpcgneaaGreat
open Go.RowKit Go.MapKept

/-- A pair of shelves, and what lies on both. -/
structure Shl where
  x : Nat
  c : Nat
  ents : List En

def cellsP : List Shl → List Value
  | [] => []
  | s :: r => .pointer (some ⟨s.x, 0, none⟩) :: .pointer (some ⟨s.c, 0, none⟩) :: cellsP r
theorem cellsP_length (l : List Shl) : (cellsP l).length = l.length * 2 := by
  induction l with
  | nil => rfl
  | cons a l ih => simp [cellsP, ih]; omega
theorem cellsP_append (l r : List Shl) : cellsP (l ++ r) = cellsP l ++ cellsP r := by
  induction l with
  | nil => rfl
  | cons a l ih => simp [cellsP, ih]
theorem cellsP_at (l : List Shl) (i : Nat) (s : Shl) (h : l[i]? = some s) : (cellsP l)[i * 2]? = some (.pointer (some ⟨s.x, 0, none⟩)) ∧ (cellsP l)[i * 2 + 1]? = some (.pointer (some ⟨s.c, 0, none⟩)) := by
  induction l generalizing i with
  | nil => simp at h
  | cons a l ih =>
    cases i with
    | zero => simp at h; subst h; exact ⟨rfl, rfl⟩
    | succ i =>
      have := ih i (by simpa using h)
      rw [show (i + 1) * 2 = i * 2 + 1 + 1 by omega]
      simpa [cellsP] using this
theorem cellsP_set (l : List Shl) (i : Nat) (s : Shl) (h : l[i]? = some s) (e : List En) : cellsP (l.set i { s with ents := e }) = cellsP l := by
  induction l generalizing i with
  | nil => rfl
  | cons a l ih =>
    cases i with
    | zero => simp at h; subst h; rfl
    | succ i =>
      have := ih i (by simpa using h)
      simp [cellsP, this]

/-- The play at block y: whose each block is: 1 the play's own, 2 the row of pairs, 3 the book's, 4 + 2i and 5 + 2i the two shelves' of pair i; 0 nobody's. None lies below N. -/
structure Py (w : World) (tag : Nat → Nat) (y N : Nat) (pv : Value) (shs : List Shl) (k : Nat) : Prop where
  tl : ∀ j, tag j ≠ 0 → N ≤ j ∧ j < w.heap.size
  ty : tag y = 1
  bk : Bk w (fun j => tag j = 3) y pv k
  own : Own w 98 2 pv shs.length (cellsP shs)
  pt : ∀ g, pv.ownBlock = some g → tag g = 2
  px : ∀ (i : Nat) s, shs[i]? = some s → PSh w (fun j => tag j = 4 + 2 * i) s.x s.ents
  rc : ∀ (i : Nat) s, shs[i]? = some s → RSh w (fun j => tag j = 5 + 2 * i) s.c s.ents
  g60 : ∀ s ∈ shs, s.ents.length ≤ 60
  g6 : ∀ s ∈ shs, ∀ e ∈ s.ents, e.needs.length ≤ 6

/-- What a step leaves. -/
def Stp (w : World) (tag : Nat → Nat) (y N : Nat) (shs : List Shl) (k : Nat) (w' : World) : Prop :=
  ∃ (tag' : Nat → Nat) (pv' : Value) (shs' : List Shl) (k' : Nat), Py w' tag' y N pv' shs' k' ∧ k' ≤ k + 1 ∧ shs'.length ≤ shs.length + 1 ∧ Below N w w' ∧ ∀ j, j < w.heap.size → tag j = 0 → w'.heap[j]? = w.heap[j]? ∧ tag' j = 0

theorem Py.ylt {w : World} {tag : Nat → Nat} {y N : Nat} {pv : Value} {shs : List Shl} {k : Nat} (h : Py w tag y N pv shs k) : N ≤ y ∧ y < w.heap.size := h.tl y (by rw [h.ty]; decide)

theorem Py.st {w : World} {tag : Nat → Nat} {y N : Nat} {pv : Value} {shs : List Shl} {k : Nat} (h : Py w tag y N pv shs k) {i : Nat} {s : Shl} (hi : shs[i]? = some s) :
    St w (fun j => tag j = 4 + 2 * i) (fun j => tag j = 5 + 2 * i) (fun j => tag j = 3) y s.x s.c pv k s.ents where
  px := h.px i s hi
  rc := h.rc i s hi
  bk := h.bk
  lx := fun j hj => (h.tl j (by omega)).2
  lc := fun j hj => (h.tl j (by omega)).2
  lb := fun j hj => (h.tl j (by omega)).2
  dxc := fun j h1 h2 => by omega
  dxb := fun j h1 h2 => by omega
  dcb := fun j h1 h2 => by omega
  yx := by have := h.ty; omega
  yc := by have := h.ty; omega
  yb := by have := h.ty; omega
  g60 := h.g60 s (List.mem_of_getElem? hi)
  g6 := h.g6 s (List.mem_of_getElem? hi)

theorem Py.below {w w' : World} {tag : Nat → Nat} {y N : Nat} {pv : Value} {shs : List Shl} {k : Nat} (h : Py w tag y N pv shs k) (hb : Below w.heap.size w w') : Py w' tag y N pv shs k where
  tl := fun j hj => ⟨(h.tl j hj).1, Nat.lt_of_lt_of_le (h.tl j hj).2 hb.size⟩
  ty := h.ty
  bk := h.bk.of_blocks (hb.block y h.ylt.2) (fun j hj => hb.block j (h.tl j (by omega)).2)
  own := h.own.of_block (fun g hg => hb.block g (h.tl g (by have := h.pt g hg; omega)).2)
  pt := h.pt
  px := fun i s hi => (h.px i s hi).of_blocks (fun j hj => hb.block j (h.tl j (by omega)).2)
  rc := fun i s hi => (h.rc i s hi).of_blocks (fun j hj => hb.block j (h.tl j (by omega)).2)
  g60 := h.g60
  g6 := h.g6

open Classical in
/-- A call on pair i is over. -/
theorem Py.left {w w' : World} {tag : Nat → Nat} {y N : Nat} {pv : Value} {shs : List Shl} {k : Nat} (h : Py w tag y N pv shs k) {i : Nat} {s : Shl} (hi : shs[i]? = some s)
    (hl : Left w (fun j => tag j = 4 + 2 * i) (fun j => tag j = 5 + 2 * i) (fun j => tag j = 3) y s.x s.c pv k w') : Stp w tag y N shs k w' := by
  obtain ⟨FX, FC, FB, k', ents', hst, hk, hin, hu⟩ := hl
  obtain ⟨hNy, hyl⟩ := h.ylt
  have hsz := hu.size
  obtain ⟨tag', htag⟩ : ∃ tag' : Nat → Nat, tag' = fun j => if FX j then 4 + 2 * i else if FC j then 5 + 2 * i else if FB j then 3 else if tag j = 4 + 2 * i ∨ tag j = 5 + 2 * i ∨ tag j = 3 then 0 else tag j := ⟨_, rfl⟩
  have tX : ∀ j, FX j → tag' j = 4 + 2 * i := fun j hj => by rw [htag]; exact if_pos hj
  have tC : ∀ j, FC j → tag' j = 5 + 2 * i := fun j hj => by
    rw [htag]
    show (if FX j then _ else _) = _
    rw [if_neg (fun e => hst.dxc j e hj), if_pos hj]
  have tB : ∀ j, FB j → tag' j = 3 := fun j hj => by
    rw [htag]
    show (if FX j then _ else _) = _
    rw [if_neg (fun e => hst.dxb j e hj), if_neg (fun e => hst.dcb j e hj), if_pos hj]
  have hout : ∀ j, tag j ≠ 0 → tag j ≠ 4 + 2 * i → tag j ≠ 5 + 2 * i → tag j ≠ 3 → tag' j = tag j := by
    intro j h0 h1 h2 h3
    have hn : ¬ (FX j ∨ FC j ∨ FB j) := by
      intro e
      rcases hin j e with (e | e | e) | e
      · exact h1 e
      · exact h2 e
      · exact h3 e
      · have := (h.tl j h0).2; omega
    rw [htag]
    show (if FX j then _ else _) = _
    rw [if_neg (fun e => hn (Or.inl e)), if_neg (fun e => hn (Or.inr (Or.inl e))), if_neg (fun e => hn (Or.inr (Or.inr e))), if_neg (by rintro (e | e | e); exact h1 e; exact h2 e; exact h3 e)]
  have hinv : ∀ j, tag' j ≠ 0 → FX j ∨ FC j ∨ FB j ∨ tag j ≠ 0 := by
    intro j hj
    by_cases e1 : FX j
    · exact Or.inl e1
    by_cases e2 : FC j
    · exact Or.inr (Or.inl e2)
    by_cases e3 : FB j
    · exact Or.inr (Or.inr (Or.inl e3))
    refine Or.inr (Or.inr (Or.inr ?_))
    intro e0
    apply hj
    rw [htag]
    show (if FX j then _ else _) = _
    rw [if_neg e1, if_neg e2, if_neg e3]
    split
    · rfl
    · exact e0
  have hkeep : ∀ j, tag j ≠ 0 → tag j ≠ 1 → tag j ≠ 4 + 2 * i → tag j ≠ 5 + 2 * i → tag j ≠ 3 → w'.heap[j]? = w.heap[j]? := by
    intro j h0 h00 h1 h2 h3
    refine hu.block j (h.tl j h0).2 ?_
    rintro (e | e | e | e)
    · exact h1 e
    · exact h2 e
    · exact h3 e
    · subst e; exact h00 h.ty
  have hil := (List.getElem?_eq_some_iff.1 hi).1
  have hmem : ∀ q ∈ shs.set i { s with ents := ents' }, q ∈ shs ∨ q = { s with ents := ents' } := fun q hq => List.mem_or_eq_of_mem_set hq
  refine ⟨tag', pv, shs.set i { s with ents := ents' }, k', ⟨?_, ?_, ?_, ?_, ?_, ?_, ?_, ?_, ?_⟩, hk, by simp, ?_, ?_⟩
  · intro j hj
    have hlo : FX j ∨ FC j ∨ FB j → N ≤ j := by
      intro e
      rcases hin j e with (e | e | e) | e
      · exact (h.tl j (by omega)).1
      · exact (h.tl j (by omega)).1
      · exact (h.tl j (by omega)).1
      · omega
    rcases hinv j hj with e | e | e | e
    · exact ⟨hlo (Or.inl e), hst.lx j e⟩
    · exact ⟨hlo (Or.inr (Or.inl e)), hst.lc j e⟩
    · exact ⟨hlo (Or.inr (Or.inr e)), hst.lb j e⟩
    · exact ⟨(h.tl j e).1, by have := (h.tl j e).2; omega⟩
  · have := h.ty
    rw [hout y (by omega) (by omega) (by omega) (by omega)]
    exact this
  · exact hst.bk.mono tB
  · rw [cellsP_set _ _ _ hi, List.length_set]
    exact h.own.of_block (fun g hg => by have := h.pt g hg; exact hkeep g (by omega) (by omega) (by omega) (by omega) (by omega))
  · intro g hg
    have := h.pt g hg
    rw [hout g (by omega) (by omega) (by omega) (by omega)]
    exact this
  · intro j q hq
    by_cases hj : i = j
    · subst hj
      rw [List.getElem?_set_self hil] at hq
      cases hq
      exact hst.px.mono tX
    · rw [List.getElem?_set_ne hj] at hq
      refine ((h.px j q hq).of_blocks (fun b hb => hkeep b (by omega) (by omega) (by omega) (by omega) (by omega))).mono ?_
      intro b hb
      rw [hout b (by omega) (by omega) (by omega) (by omega)]
      exact hb
  · intro j q hq
    by_cases hj : i = j
    · subst hj
      rw [List.getElem?_set_self hil] at hq
      cases hq
      exact hst.rc.mono tC
    · rw [List.getElem?_set_ne hj] at hq
      refine ((h.rc j q hq).of_blocks (fun b hb => hkeep b (by omega) (by omega) (by omega) (by omega) (by omega))).mono ?_
      intro b hb
      rw [hout b (by omega) (by omega) (by omega) (by omega)]
      exact hb
  · intro q hq
    rcases hmem q hq with h' | rfl
    · exact h.g60 q h'
    · exact hst.g60
  · intro q hq
    rcases hmem q hq with h' | rfl
    · exact h.g6 q h'
    · exact hst.g6
  · refine hu.below (by omega) ?_
    rintro j hj (e | e | e | e)
    · have := (h.tl j (by omega)).1; omega
    · have := (h.tl j (by omega)).1; omega
    · have := (h.tl j (by omega)).1; omega
    · omega
  · intro j hj h0
    have hn : ¬ (FX j ∨ FC j ∨ FB j) := by
      intro e
      rcases hin j e with (e | e | e) | e <;> omega
    constructor
    · refine hu.block j hj ?_
      rintro (e | e | e | e)
      · omega
      · omega
      · omega
      · subst e; have := h.ty; omega
    · apply Classical.byContradiction
      intro e
      rcases hinv j e with e | e | e | e
      · exact hn (Or.inl e)
      · exact hn (Or.inr (Or.inl e))
      · exact hn (Or.inr (Or.inr e))
      · exact e h0

open Classical in
/-- A pair more. -/
theorem Py.new {w W1 W4 W5 W6 : World} {tag : Nat → Nat} {y N : Nat} {pv : Value} {shs : List Shl} {k : Nat} (h : Py w tag y N pv shs k) {x c : Nat}
    (hb1 : Below w.heap.size w W1) (hx : PSh W1 (fun j => w.heap.size ≤ j ∧ j < W1.heap.size) x []) (hb4 : Below W1.heap.size W1 W4) (hc : RSh W4 (fun j => W1.heap.size ≤ j ∧ j < W4.heap.size) c [])
    {o : Obj} {g cp : Nat} (hrow : CRow W5 g 98 2 (shs.length + 1) (cellsP shs ++ [.pointer (some ⟨x, 0, none⟩), .pointer (some ⟨c, 0, none⟩)]) cp) (hu5 : Upd (fun j => pv.ownBlock = some j) (W4.alloc o) W5)
    (hg : pv.ownBlock = some g ∨ (W4.alloc o).heap.size ≤ g) (h6 : W6.heap = (W5.setCell ⟨y, 0, none⟩ (.slice (some ⟨g, 0, none⟩) (shs.length + 1) cp)).heap) (ho6 : W6.os = W5.os) (ht6 : W6.tape = W5.tape) (hp6 : W6.output = W5.output) : Stp w tag y N shs k W6 := by
  obtain ⟨hNy, hyl⟩ := h.ylt
  have hs1 := hb1.size
  have hs4 := hb4.size
  have hs5 := hu5.size
  have hz4 : (W4.alloc o).heap.size = W4.heap.size + 1 := by simp
  have hz6 : W6.heap.size = W5.heap.size := by rw [h6]; simp [World.setCell]
  rw [hz4] at hs5 hg
  have hgl := hrow.lt
  have hpy : ¬ pv.ownBlock = some y := fun e => by have := h.pt y e; have := h.ty; omega
  have hgy : g ≠ y := by
    rintro rfl
    rcases hg with e | e
    · exact hpy e
    · omega
  have hne : ∀ j, j ≠ y → W6.heap[j]? = W5.heap[j]? := fun j hj => by rw [h6]; exact Below.heap_setCell _ _ _ _ hj
  have hold : ∀ j, j < W4.heap.size → j ≠ y → ¬ pv.ownBlock = some j → W6.heap[j]? = W4.heap[j]? := fun j hj hjy hjp => by
    rw [hne j hjy, hu5.block j (by omega) hjp]
    exact Below.heap_alloc _ _ _ hj
  have hold0 : ∀ j, tag j ≠ 0 → tag j ≠ 1 → tag j ≠ 2 → W6.heap[j]? = w.heap[j]? := fun j h0 h1 h2 => by
    have hj := (h.tl j h0).2
    rw [hold j (by omega) (by rintro rfl; exact h1 h.ty) (fun e => h2 (h.pt j e)), hb4.block j (by omega), hb1.block j hj]
  obtain ⟨ba, bc, svs, hy, hsl, hown, hbF, hsh⟩ := h.bk
  have hy5 : W5.heap[y]? = some (.cells #[pv, .slice ba k bc] 59 (0, 0)) := by
    rw [hu5.block y (by omega) hpy, Below.heap_alloc _ _ _ (by omega), hb4.block y (by omega), hb1.block y hyl]
    exact hy
  have hset := heap_setCell_same W5 y 0 (.slice (some ⟨g, 0, none⟩) (shs.length + 1) cp) _ _ _ hy5
  rw [← h6] at hset
  obtain ⟨tag', htag⟩ : ∃ tag' : Nat → Nat, tag' = fun j => if tag j ≠ 0 then tag j else if w.heap.size ≤ j ∧ j < W1.heap.size then 4 + 2 * shs.length else if W1.heap.size ≤ j ∧ j < W4.heap.size then 5 + 2 * shs.length else if j = g then 2 else 0 := ⟨_, rfl⟩
  have t0 : ∀ j, tag j ≠ 0 → tag' j = tag j := fun j hj => by rw [htag]; exact if_pos hj
  have hz : ∀ j, w.heap.size ≤ j → ¬ tag j ≠ 0 := fun j hj e => by have := (h.tl j e).2; omega
  have tX : ∀ j, w.heap.size ≤ j ∧ j < W1.heap.size → tag' j = 4 + 2 * shs.length := fun j hj => by
    rw [htag]
    show (if tag j ≠ 0 then _ else _) = _
    rw [if_neg (hz j hj.1), if_pos hj]
  have tC : ∀ j, W1.heap.size ≤ j ∧ j < W4.heap.size → tag' j = 5 + 2 * shs.length := fun j hj => by
    rw [htag]
    show (if tag j ≠ 0 then _ else _) = _
    rw [if_neg (hz j (by omega)), if_neg (by omega), if_pos hj]
  have tg : tag' g = 2 := by
    rcases hg with e | e
    · have := h.pt g e
      rw [t0 g (by omega)]
      exact this
    · rw [htag]
      show (if tag g ≠ 0 then _ else _) = _
      rw [if_neg (hz g (by omega)), if_neg (by omega), if_neg (by omega), if_pos rfl]
  have hnx : ∀ j, w.heap.size ≤ j → ¬ pv.ownBlock = some j := fun j hj e => by have := h.pt j e; exact hz j hj (by omega)
  have hnil : ∀ q : Shl, q.ents = [] → q.ents.length ≤ 60 ∧ ∀ e ∈ q.ents, e.needs.length ≤ 6 := by
    intro q hq
    rw [hq]
    exact ⟨by simp, fun e he => by simp at he⟩
  refine ⟨tag', .slice (some ⟨g, 0, none⟩) (shs.length + 1) cp, shs ++ [⟨x, c, []⟩], k, ⟨?_, ?_, ?_, ?_, ?_, ?_, ?_, ?_, ?_⟩, by omega, by simp, ?_, ?_⟩
  · intro j hj
    by_cases e0 : tag j ≠ 0
    · exact ⟨(h.tl j e0).1, by have := (h.tl j e0).2; omega⟩
    · rw [htag] at hj
      have hj' : (if tag j ≠ 0 then tag j else if w.heap.size ≤ j ∧ j < W1.heap.size then 4 + 2 * shs.length else if W1.heap.size ≤ j ∧ j < W4.heap.size then 5 + 2 * shs.length else if j = g then 2 else 0) ≠ 0 := hj
      rw [if_neg e0] at hj'
      split at hj'
      · omega
      · split at hj'
        · omega
        · split at hj'
          · rename_i e; subst e
            rcases hg with e | e
            · exact absurd (h.pt _ e) (by omega)
            · omega
          · exact absurd rfl hj'
  · have := h.ty
    rw [t0 y (by omega)]
    exact this
  · refine ⟨ba, bc, svs, hset, hsl, hown.of_block (fun b hb => hold0 b ?_ ?_ ?_), ?_, ?_⟩
    · have := hbF b hb; omega
    · have := hbF b hb; omega
    · have := hbF b hb; omega
    · intro b hb
      have hb' : tag b = 3 := hbF b hb
      show tag' b = 3
      rw [t0 b (by omega)]
      exact hb'
    · intro i sv hi
      refine ((hsh i sv hi).of_blocks (fun b hb => hold0 b (by omega) (by omega) (by omega))).mono ?_
      intro b hb
      rw [t0 b (by omega)]
      exact hb
  · rw [cellsP_append, List.length_append]
    exact Or.inr ⟨g, cp, rfl, hrow.of_block (hne g hgy)⟩
  · intro b hb
    have e : g = b := Option.some.inj hb
    subst e
    exact tg
  · intro i q hq
    by_cases hi : i < shs.length
    · rw [List.getElem?_append_left hi] at hq
      refine ((h.px i q hq).of_blocks (fun b hb => hold0 b (by omega) (by omega) (by omega))).mono ?_
      intro b hb
      rw [t0 b (by omega)]
      exact hb
    · have hi' : i = shs.length := by
        have := (List.getElem?_eq_some_iff.1 hq).1
        simp at this
        omega
      subst hi'
      simp at hq
      subst hq
      refine (hx.of_blocks (fun b hb => ?_)).mono tX
      rw [hold b (by omega) (by omega) (hnx b hb.1), hb4.block b hb.2]
  · intro i q hq
    by_cases hi : i < shs.length
    · rw [List.getElem?_append_left hi] at hq
      refine ((h.rc i q hq).of_blocks (fun b hb => hold0 b (by omega) (by omega) (by omega))).mono ?_
      intro b hb
      rw [t0 b (by omega)]
      exact hb
    · have hi' : i = shs.length := by
        have := (List.getElem?_eq_some_iff.1 hq).1
        simp at this
        omega
      subst hi'
      simp at hq
      subst hq
      refine (hc.of_blocks (fun b hb => ?_)).mono tC
      exact hold b hb.2 (by omega) (hnx b (by omega))
  · intro q hq
    rw [List.mem_append] at hq
    rcases hq with hq | hq
    · exact h.g60 q hq
    · simp at hq
      exact (hnil q (by rw [hq])).1
  · intro q hq
    rw [List.mem_append] at hq
    rcases hq with hq | hq
    · exact h.g6 q hq
    · simp at hq
      exact (hnil q (by rw [hq])).2
  · refine ⟨?_, ?_, ?_, by omega, ?_⟩
    · rw [ho6]; exact hu5.os.trans (hb4.os.trans hb1.os)
    · rw [ht6]; exact hu5.tape.trans (hb4.tape.trans hb1.tape)
    · rw [hp6]; exact hu5.output.trans (hb4.output.trans hb1.output)
    · intro j hj
      rw [hold j (by omega) (by omega) (fun e => by have := h.pt j e; have := (h.tl j (by omega)).1; omega), hb4.block j (by omega), hb1.block j (by omega)]
  · intro j hj h0
    constructor
    · rw [hold j (by omega) (by rintro rfl; have := h.ty; omega) (fun e => by have := h.pt j e; omega), hb4.block j (by omega), hb1.block j hj]
    · rw [htag]
      show (if tag j ≠ 0 then _ else _) = _
      rw [if_neg (by omega), if_neg (by omega), if_neg (by omega), if_neg ?_]
      rintro rfl
      rcases hg with e | e
      · have := h.pt _ e; omega
      · omega
end Go.Proofs.YtijpgamdpcgneaaGreat
