import Derived.Test.YtijpgamdpcgneaaGreatO
import Derived.Test.YtijpgamdpcgneaaGreatM
namespace Go.Proofs.YtijpgamdpcgneaaGreat

theorem bl_eq : ∀ (x y : List UInt8), Op.bytesLess x y = decide (x < y)
  | [], [] => by simp [Op.bytesLess]
  | _ :: _, [] => by simp [Op.bytesLess]
  | [], _ :: _ => by simp [Op.bytesLess]
  | a :: x, b :: y => by
    rw [Op.bytesLess, bl_eq x y]
    simp only [List.cons_lt_cons_iff]
    by_cases h1 : a < b <;> by_cases h2 : a = b <;> by_cases h3 : x < y <;> simp [h1, h2, h3]

theorem bl_trans {x y z : List UInt8} (h1 : x < y) (h2 : y < z) : x < z := List.lt_trans h1 h2
theorem bl_asymm {x y : List UInt8} (h1 : x < y) : ¬ y < x := List.lt_asymm h1
theorem bl_irrefl (x : List UInt8) : ¬ x < x := List.lt_irrefl x
theorem bl_total {x y : List UInt8} (h1 : ¬ x < y) (h2 : ¬ y < x) : x = y := List.le_antisymm (by exact h2) (by exact h1)

theorem lessM_iff (a b : Mo) : lessM a b = true ↔ (a.1.toList < b.1.toList ∨ (a.1.toList = b.1.toList ∧ a.2 < b.2)) := by
  simp [lessM, bl_eq]

theorem lessM_mid {x y z : Mo} (h1 : lessM x z = true) (h2 : ¬ lessM y z = true) : lessM x y = true := by
  rw [lessM_iff] at *
  have h3 : ¬ y.1.toList < z.1.toList := fun h => h2 (Or.inl h)
  have h4 : y.1.toList = z.1.toList → ¬ y.2 < z.2 := fun h h' => h2 (Or.inr ⟨h, h'⟩)
  rcases h1 with h1 | ⟨h1, h1'⟩
  · by_cases h5 : z.1.toList < y.1.toList
    · exact Or.inl (bl_trans h1 h5)
    · have := bl_total h3 h5
      rw [this]
      exact Or.inl h1
  · by_cases h5 : z.1.toList < y.1.toList
    · rw [h1]
      exact Or.inl h5
    · have := bl_total h3 h5
      have := h4 this
      right
      refine ⟨by rw [h1]; exact (bl_total h3 h5).symm, by omega⟩

theorem lessM_asymm {x y : Mo} (h : lessM x y = true) : ¬ lessM y x = true := by
  rw [lessM_iff] at *
  rintro (h' | ⟨h', h''⟩)
  · rcases h with h | ⟨h, _⟩
    · exact bl_asymm h h'
    · rw [h] at h'
      exact bl_irrefl _ h'
  · rcases h with h | ⟨h, h3⟩
    · rw [h'] at h
      exact bl_irrefl _ h
    · omega

theorem cmpM_less (a b : Mo) : cmpM a b < 0 ↔ lessM a b = true := by
  rw [lessM_iff]
  unfold cmpM orI cmpStr cmpInt
  rw [bl_eq]
  by_cases h : a.1.toList < b.1.toList
  · simp [h]
  · by_cases h2 : a.1.toList = b.1.toList
    · have : ¬ b.1.toList < b.1.toList := bl_irrefl _
      by_cases h3 : a.2 < b.2
      · simp [h2, this, h3]
      · by_cases h4 : b.2 < a.2 <;> simp [h2, this, h3, h4]
    · simp [h, h2]

/-- In order: no later one is ahead of an earlier one. -/
def Srt (l : List Mo) : Prop := l.Pairwise fun a b => ¬ lessM b a = true

theorem posL_spec (x : Mo) (l : List Mo) : (∀ y ∈ l.take (posL x l), ¬ lessM x y = true) ∧ (∀ y, l[posL x l]? = some y → lessM x y = true) := by
  induction l with
  | nil => simp [posL]
  | cons a r ih =>
    simp only [posL]
    split
    · rename_i h
      refine ⟨by simp, ?_⟩
      intro y hy
      simp at hy
      subst hy
      exact h
    · rename_i h
      refine ⟨?_, ?_⟩
      · intro y hy
        rw [List.take_succ_cons, List.mem_cons] at hy
        rcases hy with rfl | hy
        · exact h
        · exact ih.1 y hy
      · intro y hy
        exact ih.2 y (by simpa using hy)

theorem insL_srt {x : Mo} {l : List Mo} (h : Srt l) : Srt (insL x l) := by
  obtain ⟨h1, h2⟩ := posL_spec x l
  unfold Srt at *
  rw [← List.take_append_drop (posL x l) l, List.pairwise_append] at h
  obtain ⟨p1, p2, p3⟩ := h
  have hd : ∀ z ∈ l.drop (posL x l), lessM x z = true := by
    intro z hz
    cases hdl : l.drop (posL x l) with
    | nil => rw [hdl] at hz; simp at hz
    | cons y r =>
      have hy : l[posL x l]? = some y := by
        have := congrArg List.head? hdl
        simpa using this
      have hxy := h2 y hy
      rw [hdl] at hz p2
      rw [List.mem_cons] at hz
      rcases hz with rfl | hz
      · exact hxy
      · have := (List.pairwise_cons.1 p2).1 z hz
        exact lessM_mid hxy this
  rw [insL, List.append_assoc, List.pairwise_append]
  refine ⟨p1, ?_, ?_⟩
  · rw [List.singleton_append, List.pairwise_cons]
    exact ⟨fun z hz => lessM_asymm (hd z hz), p2⟩
  · intro a ha b hb
    rw [List.singleton_append, List.mem_cons] at hb
    rcases hb with rfl | hb
    · exact h1 a ha
    · exact p3 a ha b hb

theorem posL_snoc_hit {x y : Mo} (S : List Mo) (h : lessM x y = true) : posL x (S ++ [y]) = posL x S := by
  induction S with
  | nil => simp [posL, h]
  | cons a r ih => simp only [List.cons_append, posL, ih]

theorem posL_none {x : Mo} {S : List Mo} (h : ∀ y ∈ S, ¬ lessM x y = true) : posL x S = S.length := by
  induction S with
  | nil => rfl
  | cons a r ih =>
    simp only [posL, if_neg (h a (by simp)), ih (fun y hy => h y (by simp [hy])), List.length_cons]

theorem sift_ins (n : Nat) : ∀ (S : List Mo) (x : Mo) (R : List Mo), S.length = n → Srt S → sift (S ++ x :: R) S.length = insL x S ++ R := by
  induction n with
  | zero =>
    intro S x R hn hs
    have : S = [] := List.eq_nil_of_length_eq_zero hn
    subst this
    simp [sift, insL, posL]
  | succ n ih =>
    intro S x R hn hs
    rcases List.eq_nil_or_concat S with rfl | ⟨S', y, rfl⟩
    · simp at hn
    · rw [List.concat_eq_append] at *
      have hn' : S'.length = n := by simpa using hn
      have ha : ((S' ++ [y]) ++ x :: R)[S'.length + 1]? = some x := by
        rw [List.getElem?_append_right (by simp)]
        simp
      have hb : ((S' ++ [y]) ++ x :: R)[S'.length]? = some y := by
        rw [List.append_assoc, List.getElem?_append_right (by simp)]
        simp
      rw [show (S' ++ [y]).length = S'.length + 1 by simp]
      unfold Srt at hs
      rw [List.pairwise_append] at hs
      by_cases hl : lessM x y = true
      · rw [sift_less ha hb ((cmpM_less x y).2 hl)]
        have e : ((((S' ++ [y]) ++ x :: R).set (S'.length + 1) y).set S'.length x) = S' ++ x :: (y :: R) := by
          rw [List.append_assoc, List.set_append_right _ _ (by simp), List.set_append_right _ _ (by simp)]
          simp
        rw [e, ih S' x (y :: R) hn' hs.1]
        simp only [insL, posL_snoc_hit S' hl]
        have := posL_le x S'
        rw [List.take_append_of_le_length this, List.drop_append_of_le_length this]
        simp
      · rw [sift_not ha hb (fun h => hl ((cmpM_less x y).1 h))]
        have : posL x (S' ++ [y]) = (S' ++ [y]).length := by
          apply posL_none
          intro z hz hxz
          rw [List.mem_append, List.mem_singleton] at hz
          rcases hz with hz | rfl
          · exact hl (lessM_mid hxz (hs.2.2 z hz y (by simp)))
          · exact hl hxz
        rw [insL, this, List.take_length, List.drop_length]
        simp

theorem srtTo_srt (l : List Mo) (k : Nat) : Srt (srtTo l k) := by
  induction k with
  | zero => exact List.Pairwise.nil
  | succ k ih =>
    simp only [srtTo]
    split
    · exact insL_srt ih
    · exact ih

theorem isortFrom_eq (l : List Mo) (f : Nat) : ∀ (i : Nat), i + f = l.length → isortFrom (srtTo l i ++ l.drop i) i f = srt l := by
  induction f with
  | zero =>
    intro i hi
    rw [isortFrom, List.drop_of_length_le (by omega), List.append_nil, srt]
    congr 1
  | succ f ih =>
    intro i hi
    have hx : l[i]? = some l[i] := List.getElem?_eq_getElem (by omega)
    have hd : l.drop i = l[i] :: l.drop (i + 1) := by
      rw [List.drop_eq_getElem_cons (by omega)]
    have hlen := srtTo_length l i (by omega)
    have hs := sift_ins i (srtTo l i) l[i] (l.drop (i + 1)) hlen (srtTo_srt l i)
    rw [hlen] at hs
    rw [isortFrom, hd, hs, ← srtTo_succ hx]
    exact ih (i + 1) (by omega)

/-- Both sorts give the same list. -/
theorem isort_srt (l : List Mo) : isort l = srt l := by
  cases l with
  | nil => rfl
  | cons a r =>
    have := isortFrom_eq (a :: r) r.length 1 (by simp; omega)
    have e : srtTo (a :: r) 1 ++ (a :: r).drop 1 = a :: r := by simp [srtTo, insL, posL]
    rw [e] at this
    exact this
end Go.Proofs.YtijpgamdpcgneaaGreat
