import Derived.Test.YtijpgamdpcgneaaGreatL
import Derived.Laws.AppendOwn
namespace Go.Proofs.YtijpgamdpcgneaaGreat
open Go.RowKit

/-- A row of n elements of type e, size cells each, at the head of block g. -/
def CRow (w : World) (g : Nat) (e : TypeId) (size n : Nat) (xs : List Value) (cap : Nat) : Prop :=
  xs.length = n * size ∧ n ≤ cap ∧ cap ≤ maxLen ∧ ∃ cur : Array Value, w.heap[g]? = some (.cells cur e (0, 0)) ∧ cur.size = cap * size ∧ cur.toList.take (n * size) = xs

/-- .. or nothing: what a slice that may be nil owns. -/
def Own (w : World) (e : TypeId) (size : Nat) (v : Value) (n : Nat) (xs : List Value) : Prop :=
  (v = .slice none 0 0 ∧ n = 0 ∧ xs = []) ∨ ∃ g cap, v = .slice (some ⟨g, 0, none⟩) n cap ∧ CRow w g e size n xs cap

theorem CRow.lt {w : World} {g : Nat} {e : TypeId} {size n : Nat} {xs : List Value} {cap : Nat} (h : CRow w g e size n xs cap) : g < w.heap.size := by
  obtain ⟨_, _, _, cur, h1, _⟩ := h
  exact (Array.getElem?_eq_some_iff.1 h1).1

theorem CRow.of_block {w w' : World} {g : Nat} {e : TypeId} {size n : Nat} {xs : List Value} {cap : Nat} (h : CRow w g e size n xs cap) (hb : w'.heap[g]? = w.heap[g]?) : CRow w' g e size n xs cap := by
  obtain ⟨h1, h2, h3, cur, h4, h5⟩ := h
  exact ⟨h1, h2, h3, cur, hb.trans h4, h5⟩

theorem Own.of_block {w w' : World} {e : TypeId} {size n : Nat} {v : Value} {xs : List Value} (h : Own w e size v n xs) (hb : ∀ g, v.ownBlock = some g → w'.heap[g]? = w.heap[g]?) : Own w' e size v n xs := by
  rcases h with h | ⟨g, cap, rfl, h⟩
  · exact Or.inl h
  · exact Or.inr ⟨g, cap, rfl, h.of_block (hb g rfl)⟩

theorem CRow.cell {w : World} {g : Nat} {e : TypeId} {size n : Nat} {xs : List Value} {cap : Nat} (h : CRow w g e size n xs cap) {j : Nat} {u : Value} (hj : xs[j]? = some u) : w.cell? ⟨g, j, none⟩ = some u := by
  obtain ⟨h1, h2, h3, cur, h4, h5, h6⟩ := h
  rw [← h6, List.getElem?_take] at hj
  split at hj
  · simpa [World.cell?, h4] using hj
  · cases hj

theorem CRow.frozen {w : World} {g : Nat} {e : TypeId} {size n : Nat} {xs : List Value} {cap : Nat} (h : CRow w g e size n xs cap) (j : Nat) : w.frozen? ⟨g, j, none⟩ = false := by
  obtain ⟨h1, h2, h3, cur, h4, h5, h6⟩ := h
  simp [World.frozen?, h4]

theorem upd_setRow {w : World} (g : Nat) (c : Array Value) : Upd (fun k => some g = some k) w (w.setRow g c) :=
  ⟨rfl, rfl, rfl, by simp, fun k _ hk => setRow_other w g k _ (fun e => hk (by rw [e]))⟩

theorem run_append_gen (w : World) (t ty e : TypeId) (z : Value) (size bytes : Nat) (ht : Tryz.prog.underlying t = some (.slice e)) (hinfo : (Tryz.prog.info? e).map (fun i => (i.zero, i.size, i.bytes)) = some (some z, size, bytes))
    (hzs : z.cells.size = size) (hsz : 0 < size) (v : Value) (n : Nat) (xs : List Value) (hown : Own w e size v n xs)
    (a : Addr) (m c : Nat) (news : List Value) (hl : news.length = m * size) (hnews : ∀ j u, news[j]? = some u → w.cell? (a.add j) = some u) (h1 : ∀ u ∈ news, u.oneCell' = true)
    (h63 : n + m ≤ maxLen) (hbytes : (n + m) * bytes ≤ 140737488355328) (hm : 0 < m ∨ v ≠ .slice none 0 0) :
    ∃ g cap w', (Builtin.append_ #[t, t] ty #[v, .slice (some a) m c]).run Tryz.prog w = .ok (.slice (some ⟨g, 0, none⟩) (n + m) cap) w' ∧ CRow w' g e size (n + m) (xs ++ news) cap ∧ Upd (fun k => v.ownBlock = some k) w w' ∧
      (v.ownBlock = some g ∨ w.heap.size ≤ g) := by
  obtain ⟨i, hi, hz, hsize, hby⟩ := info_parts hinfo
  subst hsize
  subst hby
  have hsmall : n + m ≤ 9223372036854775807 := by simp only [maxLen] at h63; omega
  have grown : ∀ (old : Nat) (S : Nat → Prop), xs.length = n * i.size → old < n + m →
      CRow (w.drew.alloc (.cells (xs.toArray ++ news.toArray ++ Builtin.zeroCells z.cells (grownCap w (n + m) old e - (n + m))) e)) w.heap.size e i.size (n + m) (xs ++ news) (grownCap w (n + m) old e) ∧
      Upd S w (w.drew.alloc (.cells (xs.toArray ++ news.toArray ++ Builtin.zeroCells z.cells (grownCap w (n + m) old e - (n + m))) e)) := by
    intro old S hxl ho
    have hlen : (xs ++ news).length = (n + m) * i.size := by rw [List.length_append, hxl, hl, Nat.add_mul]
    have hge := grownCap_ge w (n + m) old e
    have hcm : grownCap w (n + m) old e ≤ maxLen := grownCap_le_maxLen w (n + m) old e h63
    refine ⟨⟨hlen, hge, hcm, _, heap_alloc_new w.drew _, ?_, ?_⟩, ⟨rfl, rfl, rfl, by simp, fun k hk _ => Below.heap_alloc w.drew _ k hk⟩⟩
    · simp only [Array.size_append, List.size_toArray, size_zeroCells, hzs, hxl, hl, ← Nat.add_mul]
      rw [Nat.add_sub_cancel' hge]
    · simp only [Array.toList_append, List.append_assoc]
      rw [← List.append_assoc, ← hlen]
      exact List.take_left
  rcases hown with ⟨rfl, rfl, rfl⟩ | ⟨g, cap, rfl, hrow⟩
  · have hm0 : 0 < m := by rcases hm with h | h; exact h; exact absurd rfl h
    have hr := run_append_nil (P := Tryz.prog) w t ty e i z ht hi hz a m c news hl hnews hm0 (by omega) (by have hb := hbytes; simp only [Nat.zero_add] at hb; omega)
    have hgr := grown 0 (fun k => (Value.slice none 0 0).ownBlock = some k) (by simp) (by omega)
    simp only [Nat.zero_add, List.nil_append, Array.empty_append] at hgr ⊢
    exact ⟨_, _, _, hr, hgr.1, hgr.2, Or.inr (Nat.le_refl _)⟩
  · obtain ⟨hxl, hnc, hcm, cur, hg, hcs, htake⟩ := hrow
    have hlen : (xs ++ news).length = (n + m) * i.size := by rw [List.length_append, hxl, hl, Nat.add_mul]
    by_cases hroom : n + m ≤ cap
    · have hfit : n * i.size + news.length ≤ cur.size := by rw [hl, hcs, ← Nat.add_mul]; exact Nat.mul_le_mul_right _ hroom
      have hr := run_append_room (P := Tryz.prog) w t ty e i ht hi g n cap cur hg a m c news hl hnews h1 hroom hfit
      refine ⟨g, cap, _, hr, ⟨hlen, hroom, hcm, _, setRow_heap w g cur _ e _ hg, ?_, ?_⟩, upd_setRow g _, Or.inl rfl⟩
      · simp only [List.size_toArray, List.length_append, List.length_take, List.length_drop, Array.length_toList]
        omega
      · rw [htake, ← hlen]
        exact List.take_left
    · have holds : ∀ j u, xs[j]? = some u → w.cell? ((⟨g, 0, none⟩ : Addr).add j) = some u := by
        intro j u hj
        have := CRow.cell (w := w) (g := g) (e := e) (size := i.size) (n := n) (xs := xs) (cap := cap) ⟨hxl, hnc, hcm, cur, hg, hcs, htake⟩ hj
        simpa [Addr.add_lit] using this
      have hr := run_append_grow (P := Tryz.prog) w t ty e i z ht hi hz ⟨g, 0, none⟩ n cap xs hxl holds a m c news hl hnews (by omega) (by omega) (growslice_fits (by omega) hbytes)
      have hgr := grown cap (fun k => (Value.slice (some ⟨g, 0, none⟩) n cap).ownBlock = some k) hxl (by omega)
      exact ⟨_, _, _, hr, hgr.1, hgr.2, Or.inr (Nat.le_refl _)⟩

theorem wp_append_gen {o : Oper} {a : Act} {K : Act → World → Prop} {Q : Exit → Act → World → Prop} (w : World) (s x : Operand) (t : TypeId)
    (ho : o.op = .call { callee := .builtin .append, args := #[s, x], argTypes := #[t, t] })
    (e : TypeId) (z : Value) (size bytes : Nat) (ht : Tryz.prog.underlying t = some (.slice e)) (hinfo : (Tryz.prog.info? e).map (fun i => (i.zero, i.size, i.bytes)) = some (some z, size, bytes))
    (hzs : z.cells.size = size) (hsz : 0 < size) (v : Value) (n : Nat) (xs : List Value) (hs : a.eval s = v) (hown : Own w e size v n xs)
    (ad : Addr) (m c : Nat) (news : List Value) (hx : a.eval x = .slice (some ad) m c) (hl : news.length = m * size) (hnews : ∀ j u, news[j]? = some u → w.cell? (ad.add j) = some u) (h1 : ∀ u ∈ news, u.oneCell' = true)
    (h63 : n + m ≤ maxLen) (hbytes : (n + m) * bytes ≤ 140737488355328) (hm : 0 < m ∨ v ≠ .slice none 0 0)
    (h : ∀ g cap w', CRow w' g e size (n + m) (xs ++ news) cap → Upd (fun k => v.ownBlock = some k) w w' → (v.ownBlock = some g ∨ w.heap.size ≤ g) → K (a.put o.dst (.slice (some ⟨g, 0, none⟩) (n + m) cap)) w') : o.wp Tryz.prog a w K Q := by
  obtain ⟨g, cap, w', hr, h2, h3, h4⟩ := run_append_gen w t o.type e z size bytes ht hinfo hzs hsz v n xs hown ad m c news hl hnews h1 h63 hbytes hm
  unfold Oper.wp execOp
  simp only [ho, resolve, invoke, builtin, Sem.run_bind, Sem.run_pure, Result.andThen_ok, List.map_toArray, List.map_cons, List.map_nil, hs, hx, hr]
  exact h g cap w' h2 h3 h4

theorem wpList_append_gen {ops : Array Oper} {rest : List Oper} {o : Oper} {a : Act} {Q : Exit → Act → World → Prop} (w : World) (hgd : o.guard = none) (s x : Operand) (t : TypeId)
    (ho : o.op = .call { callee := .builtin .append, args := #[s, x], argTypes := #[t, t] })
    (e : TypeId) (z : Value) (size bytes : Nat) (ht : Tryz.prog.underlying t = some (.slice e)) (hinfo : (Tryz.prog.info? e).map (fun i => (i.zero, i.size, i.bytes)) = some (some z, size, bytes))
    (hzs : z.cells.size = size) (hsz : 0 < size) (v : Value) (n : Nat) (xs : List Value) (hs : a.eval s = v) (hown : Own w e size v n xs)
    (ad : Addr) (m c : Nat) (news : List Value) (hx : a.eval x = .slice (some ad) m c) (hl : news.length = m * size) (hnews : ∀ j u, news[j]? = some u → w.cell? (ad.add j) = some u) (h1 : ∀ u ∈ news, u.oneCell' = true)
    (h63 : n + m ≤ maxLen) (hbytes : (n + m) * bytes ≤ 140737488355328) (hm : 0 < m ∨ v ≠ .slice none 0 0)
    (h : ∀ g cap w', CRow w' g e size (n + m) (xs ++ news) cap → Upd (fun k => v.ownBlock = some k) w w' → (v.ownBlock = some g ∨ w.heap.size ≤ g) → wpList Tryz.prog ops Q rest (a.put o.dst (.slice (some ⟨g, 0, none⟩) (n + m) cap)) w') : wpList Tryz.prog ops Q (o :: rest) a w :=
  wpList_plain hgd fun _ hK => wp_append_gen w s x t ho e z size bytes ht hinfo hzs hsz v n xs hs hown ad m c news hx hl hnews h1 h63 hbytes hm fun g cap w' h2 h3 h4 => hK _ _ (h g cap w' h2 h3 h4)

/-- The cells of a list of modules. -/
def cellsL : List Mo → List Value
  | [] => []
  | m :: r => .string m.1 :: .int .i64 m.2 :: cellsL r

theorem cellsL_length (l : List Mo) : (cellsL l).length = l.length * 2 := by
  induction l with
  | nil => rfl
  | cons m r ih => simp [cellsL, ih]; omega

theorem cellsL_append (l r : List Mo) : cellsL (l ++ r) = cellsL l ++ cellsL r := by
  induction l with
  | nil => rfl
  | cons m t ih => simp [cellsL, ih]

theorem cellsL_one (l : List Mo) : ∀ u ∈ cellsL l, u.oneCell' = true := by
  induction l with
  | nil => simp [cellsL]
  | cons m r ih =>
    intro u hu
    simp only [cellsL, List.mem_cons] at hu
    rcases hu with rfl | rfl | hu
    · rfl
    · rfl
    · exact ih u hu

theorem cellsL_at (l : List Mo) (i : Nat) (m : Mo) (h : l[i]? = some m) : (cellsL l)[i * 2]? = some (.string m.1) ∧ (cellsL l)[i * 2 + 1]? = some (.int .i64 m.2) := by
  induction l generalizing i with
  | nil => simp at h
  | cons a r ih =>
    cases i with
    | zero => simp at h; subst h; simp [cellsL]
    | succ i =>
      have := ih i (by simpa using h)
      rw [show (i + 1) * 2 = i * 2 + 1 + 1 by omega]
      simpa [cellsL] using this

theorem cellsL_inv (l : List Mo) (j : Nat) (u : Value) (h : (cellsL l)[j]? = some u) : ∃ i m, l[i]? = some m ∧ ((j = i * 2 ∧ u = .string m.1) ∨ (j = i * 2 + 1 ∧ u = .int .i64 m.2)) := by
  induction l generalizing j with
  | nil => simp [cellsL] at h
  | cons a r ih =>
    match j with
    | 0 => simp [cellsL] at h; exact ⟨0, a, by simp, Or.inl ⟨rfl, h.symm⟩⟩
    | 1 => simp [cellsL] at h; exact ⟨0, a, by simp, Or.inr ⟨rfl, h.symm⟩⟩
    | j + 2 =>
      simp [cellsL] at h
      obtain ⟨i, m, h1, h2⟩ := ih j h
      refine ⟨i + 1, m, by simpa using h1, ?_⟩
      rcases h2 with ⟨h2, h3⟩ | ⟨h2, h3⟩
      · exact Or.inl ⟨by omega, h3⟩
      · exact Or.inr ⟨by omega, h3⟩

theorem LstAt.news {w : World} {b off l cap : Nat} {ys : List Mo} (h : LstAt w (.slice (some ⟨b, off, none⟩) l cap) ys) : ∀ j u, (cellsL ys)[j]? = some u → w.cell? ((⟨b, off, none⟩ : Addr).add j) = some u := by
  intro j u hj
  obtain ⟨i, m, hi, hu⟩ := cellsL_inv ys j u hj
  rcases h with ⟨h, _⟩ | ⟨b', off', cap', he, _, h⟩
  · cases h
  · cases he
    have := h i m hi
    rcases hu with ⟨rfl, rfl⟩ | ⟨rfl, rfl⟩
    · simpa [Addr.add_lit] using this.1
    · simpa [Addr.add_lit, Nat.add_assoc] using this.2

theorem CRow.row {w : World} {g : Nat} {e : TypeId} {xs : List Mo} {cap n : Nat} (h : CRow w g e 2 n (cellsL xs) cap) : Row w g e xs cap := by
  obtain ⟨h1, h2, h3, cur, h4, h5, h6⟩ := h
  have hn : n = xs.length := by rw [cellsL_length] at h1; omega
  refine ⟨cur, h4, h5, by omega, fun i m hi => ?_⟩
  have hlt := (List.getElem?_eq_some_iff.1 hi).1
  have := cellsL_at xs i m hi
  rw [← h6, List.getElem?_take, if_pos (by omega), List.getElem?_take, if_pos (by omega)] at this
  simpa using this

theorem Row.crow {w : World} {g : Nat} {e : TypeId} {xs : List Mo} {cap : Nat} (h : Row w g e xs cap) (hc : cap ≤ maxLen) : CRow w g e 2 xs.length (cellsL xs) cap := by
  obtain ⟨arr, h1, h2, h3, h4⟩ := h
  refine ⟨cellsL_length xs, h3, hc, arr, h1, h2, ?_⟩
  apply List.ext_getElem?
  intro j
  by_cases hj : j < xs.length * 2
  · rw [List.getElem?_take, if_pos hj]
    obtain ⟨m, hm⟩ : ∃ m, xs[j / 2]? = some m := ⟨_, List.getElem?_eq_getElem (by omega)⟩
    have ha := h4 _ m hm
    have hb := cellsL_at xs _ m hm
    rcases Nat.mod_two_eq_zero_or_one j with e | e
    · rw [show j / 2 * 2 = j by omega] at ha hb
      rw [hb.1]
      simpa using ha.1
    · rw [show j / 2 * 2 + 1 = j by omega] at ha hb
      rw [hb.2]
      simpa using ha.2
  · rw [List.getElem?_eq_none (by simp; omega), List.getElem?_eq_none (by rw [cellsL_length]; omega)]
end Go.Proofs.YtijpgamdpcgneaaGreat
