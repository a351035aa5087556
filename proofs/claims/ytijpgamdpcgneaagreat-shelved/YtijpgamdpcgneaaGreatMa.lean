import Derived.Test.YtijpgamdpcgneaaGreatZ
import Derived.Test.YtijpgamdpcgneaaGreatLa
namespace Go.Proofs.YtijpgamdpcgneaaGreat
open Go.RowKit

def capOf : Value → Nat
  | .slice _ _ c => c
  | _ => 0

/-- A slice of modules, whatever they are: nil, or at the head of a row. -/
def Shp (w : World) (v : Value) (n : Nat) : Prop :=
  (v = .slice none 0 0 ∧ n = 0) ∨ ∃ g cap arr, v = .slice (some ⟨g, 0, none⟩) n cap ∧ w.heap[g]? = some (.cells arr 33 (0, 0)) ∧ arr.size = cap * 2 ∧ n ≤ cap ∧ cap ≤ maxLen

theorem Shp.own {w : World} {v : Value} {n : Nat} (h : Shp w v n) : ∃ xs, Own w 33 2 v n xs := by
  rcases h with ⟨rfl, rfl⟩ | ⟨g, cap, arr, rfl, h1, h2, h3, h4⟩
  · exact ⟨[], Or.inl ⟨rfl, rfl, rfl⟩⟩
  · exact ⟨arr.toList.take (n * 2), Or.inr ⟨g, cap, rfl, by simp; omega, h3, h4, arr, h1, h2, rfl⟩⟩

theorem CRow.shp {w : World} {g n cap : Nat} {xs : List Value} (h : CRow w g 33 2 n xs cap) : Shp w (.slice (some ⟨g, 0, none⟩) n cap) n := by
  obtain ⟨h1, h2, h3, cur, h4, h5, h6⟩ := h
  exact Or.inr ⟨g, cap, cur, rfl, h4, h5, h2, h3⟩

theorem Shp.of_block {w w' : World} {v : Value} {n : Nat} (h : Shp w v n) (hb : ∀ g, v.ownBlock = some g → w'.heap[g]? = w.heap[g]?) : Shp w' v n := by
  rcases h with h | ⟨g, cap, arr, rfl, h1, h2⟩
  · exact Or.inl h
  · exact Or.inr ⟨g, cap, arr, rfl, (hb g rfl).trans h1, h2⟩

theorem Shp.lt {w : World} {v : Value} {n : Nat} (h : Shp w v n) (g : Nat) (hg : v.ownBlock = some g) : g < w.heap.size := by
  rcases h with ⟨rfl, _⟩ | ⟨g', cap, arr, rfl, h1, h2⟩
  · cases hg
  · have e : g' = g := Option.some.inj hg
    subst e
    exact (Array.getElem?_eq_some_iff.1 h1).1

theorem Shp.alloc {w : World} {v : Value} {n : Nat} (h : Shp w v n) (o : Obj) : Shp (w.alloc o) v n := h.of_block (fun g hg => Below.heap_alloc _ _ _ (h.lt g hg))

/-- What an append leaves of l and of the slices that share its row. -/
theorem Shp.keep {w w' : World} {u v : Value} {k n : Nat} (h : Shp w u k) (hu : Upd (fun j => v.ownBlock = some j) w w') (hc : u.ownBlock = v.ownBlock → capOf u = capOf v) (hv : Shp w' v n) : Shp w' u k := by
  rcases h with h | ⟨g, cap, arr, rfl, h1, h2, h3, h4⟩
  · exact Or.inl h
  · by_cases hg : v.ownBlock = some g
    · rcases hv with ⟨rfl, _⟩ | ⟨g', cap', arr', rfl, q1, q2, q3, q4⟩
      · cases hg
      · have e : g' = g := Option.some.inj hg
        subst e
        have e2 : cap = cap' := hc rfl
        subst e2
        exact Or.inr ⟨g', cap, arr', rfl, q1, q2, h3, h4⟩
    · exact Or.inr ⟨g, cap, arr, rfl, (hu.block g (Array.getElem?_eq_some_iff.1 h1).1 hg).trans h1, h2, h3, h4⟩

theorem run_append_two (w : World) (ty : TypeId) (v : Value) (n : Nat) (hv : Shp w v n)
    (a : Addr) (m c : Nat) (news : List Value) (hl : news.length = m * 2) (hnews : ∀ j u, news[j]? = some u → w.cell? (a.add j) = some u) (h1 : ∀ u ∈ news, u.oneCell' = true)
    (hbytes : (n + m) * 24 ≤ 140737488355328) (hm : 0 < m) :
    ∃ g cap w', (Builtin.append_ #[29, 29] ty #[v, .slice (some a) m c]).run Tryz.prog w = .ok (.slice (some ⟨g, 0, none⟩) (n + m) cap) w' ∧ Shp w' (.slice (some ⟨g, 0, none⟩) (n + m) cap) (n + m) ∧ Shp w' v n ∧ Upd (fun k => v.ownBlock = some k) w w' ∧
      ((v.ownBlock = some g ∧ cap = capOf v) ∨ w.heap.size ≤ g) := by
  obtain ⟨xs, hown⟩ := hv.own
  have h63 : n + m ≤ maxLen := by unfold maxLen; omega
  rcases hv with ⟨rfl, rfl⟩ | ⟨g0, cap0, arr, rfl, q1, q2, q3, q4⟩
  · obtain ⟨g, cap, w', hr, hrow, hu, hg⟩ := run_append_gen w 29 ty 33 _ 2 24 Tryz.underlying29 Tryz.info33 rfl (by decide) _ 0 xs hown a m c news hl hnews h1 h63 hbytes (Or.inl hm)
    refine ⟨g, cap, w', hr, hrow.shp, Or.inl ⟨rfl, rfl⟩, hu, Or.inr ?_⟩
    rcases hg with h | h
    · cases h
    · exact h
  · by_cases hroom : n + m ≤ cap0
    · obtain ⟨i, hi, hz, hsize, hby⟩ := info_parts Tryz.info33
      have hfit : n * i.size + news.length ≤ arr.size := by rw [hl, q2, hsize]; omega
      have hr := run_append_room (P := Tryz.prog) w 29 ty 33 i Tryz.underlying29 hi g0 n cap0 arr q1 a m c news (by rw [hl, hsize]) hnews h1 hroom hfit
      have hset := setRow_heap w g0 arr (arr.toList.take (n * i.size) ++ news ++ arr.toList.drop (n * i.size + news.length)).toArray 33 (0, 0) q1
      have hsz : (arr.toList.take (n * i.size) ++ news ++ arr.toList.drop (n * i.size + news.length)).toArray.size = cap0 * 2 := by
        simp only [List.size_toArray, List.length_append, List.length_take, List.length_drop, Array.length_toList]
        omega
      exact ⟨g0, cap0, _, hr, Or.inr ⟨g0, cap0, _, rfl, hset, hsz, hroom, q4⟩, Or.inr ⟨g0, cap0, _, rfl, hset, hsz, q3, q4⟩, upd_setRow g0 _, Or.inl ⟨rfl, rfl⟩⟩
    · obtain ⟨i, hi, hz, hsize, hby⟩ := info_parts Tryz.info33
      rcases hown with ⟨h0, _⟩ | ⟨g', cap', h0, hrow⟩
      · cases h0
      cases h0
      have holds : ∀ j u, xs[j]? = some u → w.cell? ((⟨g0, 0, none⟩ : Addr).add j) = some u := by
        intro j u hj
        simpa [Addr.add_lit] using hrow.cell hj
      have hr := run_append_grow (P := Tryz.prog) w 29 ty 33 i _ Tryz.underlying29 hi hz ⟨g0, 0, none⟩ n cap0 xs (by rw [hrow.1, hsize]) holds a m c news (by rw [hl, hsize]) hnews (by omega) (by omega) (growslice_fits (by omega) (by rw [hby]; exact hbytes))
      have hge := grownCap_ge w (n + m) cap0 33
      have hcm : grownCap w (n + m) cap0 33 ≤ maxLen := grownCap_le_maxLen w (n + m) cap0 33 h63
      have hk : ∀ (o : Obj) k, k < w.heap.size → (w.drew.alloc o).heap[k]? = w.heap[k]? := fun o k hk => Below.heap_alloc w.drew o k hk
      refine ⟨_, _, _, hr, Or.inr ⟨_, _, _, rfl, heap_alloc_new w.drew _, ?_, hge, hcm⟩, Or.inr ⟨g0, cap0, arr, rfl, (hk _ g0 (Array.getElem?_eq_some_iff.1 q1).1).trans q1, q2, q3, q4⟩, ⟨rfl, rfl, rfl, by simp, fun k hk0 _ => hk _ k hk0⟩, Or.inr (Nat.le_refl _)⟩
      simp only [Array.size_append, List.size_toArray, size_zeroCells, hrow.1, hl]
      show n * 2 + m * 2 + (grownCap w (n + m) cap0 33 - (n + m)) * 2 = grownCap w (n + m) cap0 33 * 2
      omega

theorem step_append_two {ops : Array Oper} {o : Oper} {a : Act} {K : Act → World → Prop} {Q : Exit → Act → World → Prop} {E : Prop} (w : World) (hgd : o.guard = none) (s x : Operand)
    (ho : o.op = .call { callee := .builtin .append, args := #[s, x], argTypes := #[29, 29] })
    (v : Value) (n : Nat) (hs : a.eval s = v) (hv : Shp w v n)
    (ad : Addr) (m c : Nat) (news : List Value) (hx : a.eval x = .slice (some ad) m c) (hl : news.length = m * 2) (hnews : ∀ j u, news[j]? = some u → w.cell? (ad.add j) = some u) (h1 : ∀ u ∈ news, u.oneCell' = true)
    (hbytes : (n + m) * 24 ≤ 140737488355328) (hm : 0 < m)
    (h : ∀ g cap w', Shp w' (.slice (some ⟨g, 0, none⟩) (n + m) cap) (n + m) → Shp w' v n → Upd (fun k => v.ownBlock = some k) w w' → ((v.ownBlock = some g ∧ cap = capOf v) ∨ w.heap.size ≤ g) → K (a.put o.dst (.slice (some ⟨g, 0, none⟩) (n + m) cap)) w') :
    if Region.wanted o (yielded ops a.tmps) = true then Oper.wp Tryz.prog o a w K Q else E := by
  have hw : Region.wanted o (yielded ops a.tmps) = true := by simp [Region.wanted, hgd]
  rw [if_pos hw]
  obtain ⟨g, cap, w', hr, q1, q2, q3, q4⟩ := run_append_two w o.type v n hv ad m c news hl hnews h1 hbytes hm
  unfold Oper.wp execOp
  simp only [ho, resolve, invoke, builtin, Sem.run_bind, Sem.run_pure, Result.andThen_ok, List.map_toArray, List.map_cons, List.map_nil, hs, hx, hr]
  exact h g cap w' q1 q2 q3 q4
end Go.Proofs.YtijpgamdpcgneaaGreat
