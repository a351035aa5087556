import Derived.Test.YtijpgamdpcgneaaGreatU
import Derived.Deep.DeepCutAuto
namespace Go.Proofs.YtijpgamdpcgneaaGreat
open Go.RowKit Go.MapKept

theorem wpList_append_full {ops : Array Oper} {rest : List Oper} {o : Oper} {a : Act} {Q : Exit → Act → World → Prop} (w : World) (hgd : o.guard = none) (s x : Operand) (t : TypeId)
    (ho : o.op = .call { callee := .builtin .append, args := #[s, x], argTypes := #[t, t] })
    (e : TypeId) (z : Value) (size bytes : Nat) (ht : Tryz.prog.underlying t = some (.slice e)) (hinfo : (Tryz.prog.info? e).map (fun i => (i.zero, i.size, i.bytes)) = some (some z, size, bytes))
    (hzs : z.cells.size = size) (g n : Nat) (xs : List Value) (hs : a.eval s = .slice (some ⟨g, 0, none⟩) n n) (hrow : CRow w g e size n xs n)
    (ad : Addr) (m c : Nat) (news : List Value) (hx : a.eval x = .slice (some ad) m c) (hl : news.length = m * size) (hnews : ∀ j u, news[j]? = some u → w.cell? (ad.add j) = some u)
    (h63 : n + m ≤ maxLen) (hbytes : (n + m) * bytes ≤ 140737488355328) (hm : 0 < m)
    (h : ∀ g' cap w', CRow w' g' e size (n + m) (xs ++ news) cap → Below w.heap.size w w' → w.heap.size ≤ g' → wpList Tryz.prog ops Q rest (a.put o.dst (.slice (some ⟨g', 0, none⟩) (n + m) cap)) w') : wpList Tryz.prog ops Q (o :: rest) a w :=
  wpList_plain hgd fun _ hK => by
    obtain ⟨i, hi, hz, hsize, hby⟩ := info_parts hinfo
    subst hsize
    subst hby
    have hsmall : n + m ≤ 9223372036854775807 := by simp only [maxLen] at h63; omega
    have holds : ∀ j u, xs[j]? = some u → w.cell? ((⟨g, 0, none⟩ : Addr).add j) = some u := by
      intro j u hj
      simpa [Addr.add_lit] using hrow.cell hj
    have hr := run_append_grow (P := Tryz.prog) w t o.type e i z ht hi hz ⟨g, 0, none⟩ n n xs hrow.1 holds ad m c news hl hnews (by omega) (by omega) (growslice_fits (by omega) hbytes)
    have hlen : (xs ++ news).length = (n + m) * i.size := by rw [List.length_append, hrow.1, hl, Nat.add_mul]
    have hge := grownCap_ge w (n + m) n e
    have hcm : grownCap w (n + m) n e ≤ maxLen := grownCap_le_maxLen w (n + m) n e h63
    unfold Oper.wp execOp
    simp only [ho, resolve, invoke, builtin, Sem.run_bind, Sem.run_pure, Result.andThen_ok, List.map_toArray, List.map_cons, List.map_nil, hs, hx, hr]
    refine hK _ _ (h _ _ _ ⟨hlen, hge, hcm, _, heap_alloc_new w.drew _, ?_, ?_⟩ ⟨rfl, rfl, rfl, by simp, fun k hk => Below.heap_alloc w.drew _ k hk⟩ (Nat.le_refl _))
    · simp only [Array.size_append, List.size_toArray, size_zeroCells, hzs, hrow.1, hl, ← Nat.add_mul]
      rw [Nat.add_sub_cancel' hge]
    · simp only [Array.toList_append, List.append_assoc]
      rw [← List.append_assoc, ← hlen]
      exact List.take_left

/-- What Publish answers, and the shelf behind it. -/
def publishE (ents : List En) (m : Mo) (needs : List Mo) : Int × List En :=
  if 6 < needs.length then (1, ents) else
  if chk (m :: needs) ≠ 0 then (chk (m :: needs), ents) else
  if placeErr ents m ≠ 0 then (placeErr ents m, ents) else (0, ents ++ [⟨m, srt needs, false⟩])

theorem any_rot {α : Type} (f : α → Bool) (a : α) (l : List α) : (l ++ [a]).any f = (a :: l).any f := by
  simp [Bool.or_comm]

theorem twice_rot (m : Mo) (l : List Mo) : twice (l ++ [m]) = twice (m :: l) := by
  rw [twice_snoc, Bool.eq_iff_iff]
  simp only [twice, List.pairwise_cons, Bool.or_eq_true, Bool.not_eq_true', decide_eq_false_iff_not, List.any_eq_true, beq_iff_eq]
  constructor
  · rintro (h | ⟨x, hx, e⟩) ⟨h1, h2⟩
    · exact h h2
    · exact h1 x hx e.symm
  · intro h
    by_cases h2 : l.Pairwise fun a b => a.1.toList ≠ b.1.toList
    · right
      apply Classical.byContradiction
      intro hh
      exact h ⟨fun x hx e => hh ⟨x, hx, e.symm⟩, h2⟩
    · exact Or.inl h2

theorem chk_rot (m : Mo) (l : List Mo) : chk (l ++ [m]) = chk (m :: l) := by
  simp only [chk, any_rot, twice_rot]

theorem PSh.push {w w' : World} {F F' : Nat → Prop} {a : Nat} {ents : List En} (h : PSh w F a ents) (hF : ∀ k, F k → k < w.heap.size) (e : En) (mb eb nb : Nat) (es : Array MapEntry)
    (ha : w.heap[a]? = some (.cells #[.map (some mb)] 82 (0, 0))) (hm : w.heap[mb]? = some (.map es ents.length))
    (hmb : w'.heap[mb]? = some (.map (es.push { key := mv e.m, val := .pointer (some ⟨eb, 0, none⟩), born := ents.length }) (ents.length + 1)))
    (hkeep : ∀ k, k < w.heap.size → k ≠ mb → w'.heap[k]? = w.heap[k]?)
    (heb : w'.heap[eb]? = some (.cells #[.slice (some ⟨nb, 0, none⟩) e.needs.length e.needs.length, .bool e.ret] 84 (0, 0))) (hrow : Row w' nb 78 e.needs e.needs.length)
    (hebF : w.heap.size ≤ eb) (hFF : ∀ k, F k → F' k) (hF1 : F' eb) (hF2 : F' nb) : PSh w' F' a (ents ++ [e]) := by
  obtain ⟨mb', es', ebs, nbs, h1, h2, h3, h4, h5, h6, h7, h8, h9⟩ := h
  obtain rfl : mb' = mb := by rw [h1] at ha; cases ha; rfl
  obtain rfl : es' = es := by rw [h2] at hm; cases hm; rfl
  have hne : ∀ k, F k → k ≠ mb' → w'.heap[k]? = w.heap[k]? := fun k hk hn => hkeep k (hF k hk) hn
  have hlt : ∀ eb' ∈ ebs, eb' < w.heap.size := by
    intro eb' hx
    obtain ⟨i, hi, rfl⟩ := List.getElem_of_mem hx
    obtain ⟨_, _, _, g4, _⟩ := h9 i ents[i] ebs[i] nbs[i] (List.getElem?_eq_getElem (by omega)) (List.getElem?_eq_getElem hi) (List.getElem?_eq_getElem (by omega))
    exact hF _ g4
  refine ⟨mb', es'.push { key := mv e.m, val := .pointer (some ⟨eb, 0, none⟩), born := ents.length }, ebs ++ [eb], nbs ++ [nb], ?_, by simpa using hmb, by simp [h3], by simp [h4], by simp [h5], hFF _ h6, hFF _ h7, ?_, ?_⟩
  · rw [hne a h6 (by rintro rfl; rw [h1] at h2; cases h2)]
    exact h1
  · rw [List.nodup_append]
    refine ⟨h8, by simp, ?_⟩
    intro x hx y hy
    simp at hy
    subst hy
    have := hlt x hx
    omega
  · intro i e' eb' nb' hi hi1 hi2
    by_cases hil : i < ents.length
    · rw [List.getElem?_append_left hil] at hi
      rw [List.getElem?_append_left (by omega)] at hi1 hi2
      obtain ⟨g1, g2, g3, g4, g5⟩ := h9 i e' eb' nb' hi hi1 hi2
      refine ⟨?_, ?_, ?_, hFF _ g4, hFF _ g5⟩
      · rw [Array.getElem?_push, if_neg (by omega)]
        exact g1
      · rw [hne _ g4 (by rintro rfl; rw [g2] at h2; cases h2)]
        exact g2
      · exact g3.of_block (hne _ g5 (by rintro rfl; obtain ⟨arr, q, _⟩ := g3; rw [q] at h2; cases h2))
    · have hil' : i = ents.length := by
        have := (List.getElem?_eq_some_iff.1 hi).1
        simp at this
        omega
      subst hil'
      have e1 : e = e' := by simpa using hi
      have e2 : eb = eb' := by rw [← h4] at hi1; simpa using hi1
      have e3 : nb = nb' := by rw [← h5] at hi2; simpa using hi2
      subst e1 e2 e3
      refine ⟨?_, heb, hrow, hF1, hF2⟩
      rw [← h3]
      simp
end Go.Proofs.YtijpgamdpcgneaaGreat
