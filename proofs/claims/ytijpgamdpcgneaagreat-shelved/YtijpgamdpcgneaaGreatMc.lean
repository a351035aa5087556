import Derived.Test.YtijpgamdpcgneaaGreatTo
import Derived.Deep.DeepMust
namespace Go.Proofs.YtijpgamdpcgneaaGreat
open Go.RowKit

/-- The first q modules of a list are z. -/
def Pre (w : World) (v : Value) (q : Nat) (z : Mo) : Prop :=
  (v.ownBlock = none ∧ q = 0) ∨ ∃ g n cap, v = .slice (some ⟨g, 0, none⟩) n cap ∧ Row w g 33 (List.replicate q z) cap
/-- How far list j is written when list k is written up to i. -/
def upto (n k i j : Nat) : Nat := if j < k then n + j else if j = k then i else 0

theorem Pre.of_blocks {w w' : World} {v : Value} {q : Nat} {z : Mo} (h : Pre w v q z) (hb : ∀ g, v.ownBlock = some g → w'.heap[g]? = w.heap[g]?) : Pre w' v q z := by
  rcases h with h | ⟨g, n, cap, rfl, hr⟩
  · exact Or.inl h
  · exact Or.inr ⟨g, n, cap, rfl, hr.of_block (hb g rfl)⟩

theorem Shp.pre {w : World} {v : Value} {n : Nat} (z : Mo) (h : Shp w v n) : Pre w v 0 z := by
  rcases h with ⟨rfl, rfl⟩ | ⟨g, cap, arr, rfl, h1, h2, h3, h4⟩
  · exact Or.inl ⟨rfl, rfl⟩
  · exact Or.inr ⟨g, n, cap, rfl, arr, h1, h2, by simp, fun i m hi => by simp at hi⟩

theorem Row.same_cap {w : World} {g : Nat} {xs ys : List Mo} {c d : Nat} (h : Row w g 33 xs c) (k : Row w g 33 ys d) : c = d := by
  obtain ⟨a, h1, h2, _⟩ := h
  obtain ⟨b, k1, k2, _⟩ := k
  rw [h1] at k1
  cases k1
  omega

theorem pre_write {w : World} {ls : Array Value} {n k i g m cp : Nat} {z : Mo} (h : ∀ (j : Nat) lj, ls[j]? = some lj → Pre w lj (upto n k i j) z) (hk : ls[k]? = some (.slice (some ⟨g, 0, none⟩) m cp)) (hi : i < cp) :
    ∀ (j : Nat) lj, ls[j]? = some lj → Pre ((w.setCell ⟨g, i * 2, none⟩ (.string z.1)).setCell ⟨g, i * 2 + 1, none⟩ (.int .i64 z.2)) lj (upto n k (i + 1) j) z := by
  intro j lj hj
  have hg : Row w g 33 (List.replicate i z) cp := by
    have := h k _ hk
    rw [upto, if_neg (by omega), if_pos rfl] at this
    rcases this with ⟨h0, _⟩ | ⟨g', n', cap', he, hr⟩
    · cases h0
    · cases he; exact hr
  rcases h j lj hj with ⟨h0, h1⟩ | ⟨g', n', cap', rfl, hr⟩
  · refine Or.inl ⟨h0, ?_⟩
    by_cases hjk : j = k
    · subst hjk
      rw [hk] at hj
      cases hj
      cases h0
    · rw [upto] at h1 ⊢
      rw [if_neg hjk] at h1 ⊢
      exact h1
  · refine Or.inr ⟨g', n', cap', rfl, ?_⟩
    by_cases hgg : g' = g
    · subst hgg
      have hc := hr.same_cap hg
      subst hc
      by_cases hjk : j = k
      · have := hg.put z (by simpa using hi)
        rw [List.length_replicate, ← List.replicate_succ'] at this
        rw [upto, if_neg (by omega), if_pos hjk]
        exact this
      · have := hr.set i z hi
        have e1 : upto n k (i + 1) j = upto n k i j := by rw [upto, upto, if_neg hjk, if_neg hjk]
        rw [e1]
        have e2 : (List.replicate (upto n k i j) z).set i z = List.replicate (upto n k i j) z := by
          apply List.ext_getElem?
          intro t
          rw [List.getElem?_set, List.getElem?_replicate, List.length_replicate]
          split
          · subst t; rfl
          · rfl
        rw [e2] at this
        exact this
    · have e1 : upto n k (i + 1) j = upto n k i j := by
        rw [upto, upto]
        by_cases hjk : j = k
        · exfalso
          subst hjk
          rw [hk] at hj
          cases hj
          exact hgg rfl
        · rw [if_neg hjk, if_neg hjk]
      rw [e1]
      refine hr.of_block ?_
      rw [Below.heap_setCell _ _ _ _ hgg, Below.heap_setCell _ _ _ _ hgg]

theorem upto_next (n k j : Nat) : upto n k (n + k) j = upto n (k + 1) 0 j := by
  unfold upto
  by_cases h : j = k
  · subst h; simp
  · by_cases h2 : j < k
    · rw [if_pos h2, if_pos (by omega)]
    · rw [if_neg h2, if_neg h, if_neg (by omega)]; simp
theorem Sheet.keep {w w' : World} {F : Nat → Prop} {z : Mo} {v : Value} (h : Sheet w F z v) (hb : ∀ k, F k → (∀ arr, w.heap[k]? ≠ some (.cells arr 102 (0, 0))) → w'.heap[k]? = w.heap[k]?) : Sheet w' F z v := by
  obtain ⟨s, l0, l1, l2, l3, h1, h2, h3, m0, m1, m2, m3⟩ := h
  have hm : ∀ l, Marked w F z l → Marked w' F z l := by
    rintro l ⟨n, hn, h⟩
    refine ⟨n, hn, ?_⟩
    rcases h with h | ⟨g, cap, he, hr, hF⟩
    · exact Or.inl h
    · refine Or.inr ⟨g, cap, he, hr.of_block (hb g hF ?_), hF⟩
      intro arr e
      obtain ⟨arr', e', _⟩ := hr
      rw [e] at e'
      cases e'
  refine ⟨s, l0, l1, l2, l3, h1, (hb s h3 ?_).trans h2, h3, hm _ m0, hm _ m1, hm _ m2, hm _ m3⟩
  intro arr e
  rw [e] at h2
  cases h2

theorem mods_end {F : Nat → Prop} {y : Nat} {ps : Value} {k : Nat} {la : Option Addr} {n lc : Nat} {w W1 wr w3 : World} {ba : Option Addr} {bc : Nat} {svs : List Value}
    (hF : ∀ j, F j → j < w.heap.size) (hFy : ¬ F y) (hn : (n + 3) * 24 ≤ 140737488355328)
    (hd : ∀ g, (Value.slice la n lc).ownBlock = some g → ¬ F g ∧ g ≠ y)
    (hy : w.heap[y]? = some (.cells #[ps, .slice ba k bc] 59 (0, 0))) (hsl : svs.length = k) (hown : Own w 102 1 (.slice ba k bc) k svs) (hbF : ∀ g, (Value.slice ba k bc).ownBlock = some g → F g)
    (hsh : ∀ (i : Nat) sv, svs[i]? = some sv → Sheet w F (mk' i) sv)
    (hb1 : Below w.heap.size w W1) (hu : Upd (fun j => (Value.slice la n lc).ownBlock = some j) W1 wr) {s : Nat} {l0 l1 l2 l3 : Value}
    (hsb : wr.heap[s]? = some (.cells #[l0, l1, l2, l3] 29 (0, 0))) (hss : W1.heap.size ≤ s)
    (hpre : ∀ (j : Nat) lj, #[l0, l1, l2, l3][j]? = some lj → Pre wr lj (n + j) (mk' k) ∧ Shp wr lj (n + j) ∧ ∀ g, lj.ownBlock = some g → (Value.slice la n lc).ownBlock = some g ∨ W1.heap.size ≤ g)
    {o : Obj} {g cap : Nat} (hrow : CRow w3 g 102 1 (k + 1) (svs ++ [.slice (some ⟨s, 0, none⟩) 4 4]) cap) (hu3 : Upd (fun j => (Value.slice ba k bc).ownBlock = some j) (wr.alloc o) w3)
    (hg : (Value.slice ba k bc).ownBlock = some g ∨ (wr.alloc o).heap.size ≤ g) :
    Bk (w3.setCell ⟨y, 1, none⟩ (.slice (some ⟨g, 0, none⟩) (k + 1) cap)) (fun j => F j ∨ (Value.slice la n lc).ownBlock = some j ∨ (w.heap.size ≤ j ∧ j < (w3.setCell ⟨y, 1, none⟩ (.slice (some ⟨g, 0, none⟩) (k + 1) cap)).heap.size)) y ps (k + 1) ∧ Upd (fun j => F j ∨ j = y ∨ (Value.slice la n lc).ownBlock = some j) w (w3.setCell ⟨y, 1, none⟩ (.slice (some ⟨g, 0, none⟩) (k + 1) cap)) := by
  have hs1 := hb1.size
  have hs2 := hu.size
  have hs3 := hu3.size
  have hsa : (wr.alloc o).heap.size = wr.heap.size + 1 := by simp
  rw [hsa] at hs3 hg
  have hyl : y < w.heap.size := (Array.getElem?_eq_some_iff.1 hy).1
  have hsl' : s < wr.heap.size := (Array.getElem?_eq_some_iff.1 hsb).1
  obtain ⟨v, hv⟩ : ∃ v, v = Value.slice (some ⟨g, 0, none⟩) (k + 1) cap := ⟨_, rfl⟩
  rw [← hv]
  have hsz : (w3.setCell ⟨y, 1, none⟩ v).heap.size = w3.heap.size := by simp [World.setCell]
  have hy3 : w3.heap[y]? = some (.cells #[ps, .slice ba k bc] 59 (0, 0)) := by
    rw [hu3.block y (by omega) (fun e => hFy (hbF y e)), Below.heap_alloc _ _ _ (by omega), hu.block y (by omega) (fun e => (hd y e).2 rfl), hb1.block y hyl]
    exact hy
  have hset := heap_setCell_same w3 y 1 v _ _ _ hy3
  have hnot : ∀ j, j ≠ y → (w3.setCell ⟨y, 1, none⟩ v).heap[j]? = w3.heap[j]? := fun j hj => Below.heap_setCell _ _ _ _ hj
  have hold : ∀ j, j < w.heap.size → j ≠ y → ¬ (Value.slice la n lc).ownBlock = some j → ¬ (Value.slice ba k bc).ownBlock = some j → (w3.setCell ⟨y, 1, none⟩ v).heap[j]? = w.heap[j]? := by
    intro j hj h1 h2 h3
    rw [hnot j h1, hu3.block j (by omega) h3, Below.heap_alloc _ _ _ (by omega), hu.block j (by omega) h2, hb1.block j hj]
  have hnew : ∀ j, j < wr.heap.size → j ≠ y → ¬ (Value.slice ba k bc).ownBlock = some j → (w3.setCell ⟨y, 1, none⟩ v).heap[j]? = wr.heap[j]? := by
    intro j hj h1 h3
    rw [hnot j h1, hu3.block j (by omega) h3, Below.heap_alloc _ _ _ hj]
  have hgy : g ≠ y := by
    rintro rfl
    rcases hg with h | h
    · exact hFy (hbF _ h)
    · omega
  have hgl := hrow.lt
  have hnb : ∀ j, W1.heap.size ≤ j → ¬ (Value.slice ba k bc).ownBlock = some j := fun j hj e => by have := hF j (hbF j e); omega
  have hmk : ∀ (j : Nat) lj, #[l0, l1, l2, l3][j]? = some lj → Marked (w3.setCell ⟨y, 1, none⟩ v) (fun j => F j ∨ (Value.slice la n lc).ownBlock = some j ∨ (w.heap.size ≤ j ∧ j < (w3.setCell ⟨y, 1, none⟩ v).heap.size)) (mk' k) lj := by
    intro j lj hj
    have hj4 : j < 4 := by
      have := (Array.getElem?_eq_some_iff.1 hj).1
      simpa using this
    obtain ⟨hp, hs, hb⟩ := hpre j lj hj
    refine ⟨n + j, by omega, ?_⟩
    rcases hs with ⟨rfl, h0⟩ | ⟨q, cq, arr, rfl, q1, q2, q3, q4⟩
    · exact Or.inl ⟨rfl, h0⟩
    · rcases hp with ⟨h0, _⟩ | ⟨q', n', c', he, hr⟩
      · cases h0
      cases he
      have hql := hr.lt
      refine Or.inr ⟨q, cq, rfl, hr.of_block (hnew q hql ?_ ?_), ?_⟩
      · rcases hb q rfl with h | h
        · exact (hd q h).2
        · omega
      · rcases hb q rfl with h | h
        · exact fun e => (hd q h).1 (hbF q e)
        · exact hnb q h
      · rcases hb q rfl with h | h
        · exact Or.inr (Or.inl h)
        · exact Or.inr (Or.inr ⟨by omega, by rw [hsz]; omega⟩)
  refine ⟨⟨some ⟨g, 0, none⟩, cap, svs ++ [.slice (some ⟨s, 0, none⟩) 4 4], ?_, by simp [hsl], Or.inr ⟨g, cap, rfl, hrow.of_block (hnot g hgy)⟩, ?_, ?_⟩, ?_⟩
  · rw [hset, hv]; rfl
  · intro g' he
    have e : g = g' := Option.some.inj he
    subst e
    rcases hg with h | h
    · exact Or.inl (hbF _ h)
    · exact Or.inr (Or.inr ⟨by omega, by rw [hsz]; exact hgl⟩)
  · intro i sv hi
    by_cases hik : i < k
    · rw [List.getElem?_append_left (by omega)] at hi
      refine Sheet.mono ((hsh i sv hi).keep ?_) (fun k hk => Or.inl hk)
      intro j hj harr
      refine hold j (hF j hj) (by rintro rfl; exact hFy hj) (fun e => (hd j e).1 hj) ?_
      intro e
      rcases hown with ⟨h0, _⟩ | ⟨gg, cc, h0, _, _, _, cur, h4, _⟩
      · rw [h0] at e; cases e
      · rw [h0] at e
        have e' : gg = j := Option.some.inj e
        subst e'
        exact harr cur h4
    · have hik' : i = k := by
        have := (List.getElem?_eq_some_iff.1 hi).1
        simp [hsl] at this
        omega
      subst hik'
      rw [List.getElem?_append_right (by omega)] at hi
      simp [hsl] at hi
      subst hi
      refine ⟨s, l0, l1, l2, l3, rfl, ?_, Or.inr (Or.inr ⟨by omega, by rw [hsz]; omega⟩), hmk 0 l0 rfl, hmk 1 l1 rfl, hmk 2 l2 rfl, hmk 3 l3 rfl⟩
      rw [hnew s hsl' (by omega) (hnb s hss)]
      exact hsb
  · refine ⟨?_, ?_, ?_, by rw [hsz]; omega, ?_⟩
    · exact hu3.os.trans (hu.os.trans hb1.os)
    · exact hu3.tape.trans (hu.tape.trans hb1.tape)
    · exact hu3.output.trans (hu.output.trans hb1.output)
    · intro j hj hn'
      exact hold j hj (fun e => hn' (Or.inr (Or.inl e))) (fun e => hn' (Or.inr (Or.inr e))) (fun e => hn' (Or.inl (hbF j e)))
end Go.Proofs.YtijpgamdpcgneaaGreat
