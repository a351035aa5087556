import Derived.Test.YtijpgamdpcgneaaGreatR
namespace Go.Proofs.YtijpgamdpcgneaaGreat
open Go.RowKit Go.MapKept

def retractE (ents : List En) (m : Mo) : Int × List En := match idxE ents m with
  | none => (7, ents)
  | some i => match ents[i]? with
    | none => (7, ents)
    | some e => if e.ret then (4, ents) else (0, ents.set i { e with ret := true })

theorem PSh.setRet {w : World} {F : Nat → Prop} {a : Nat} {ents : List En} (h : PSh w F a ents) {i : Nat} {e : En} (hi : ents[i]? = some e) {eb : Nat} (hv : ∀ mb es, w.heap[a]? = some (.cells #[.map (some mb)] 82 (0, 0)) → w.heap[mb]? = some (.map es ents.length) → (es[i]?).map (·.val) = some (.pointer (some ⟨eb, 0, none⟩))) :
    PSh (w.setCell ⟨eb, 1, none⟩ (.bool true)) F a (ents.set i { e with ret := true }) ∧ F eb := by
  obtain ⟨mb, es, ebs, nbs, h1, h2, h3, h4, h5, h6, h7, h8, h9⟩ := h
  have hlt := (List.getElem?_eq_some_iff.1 hi).1
  have hx := h9 i e ebs[i] nbs[i] hi (List.getElem?_eq_getElem (by omega)) (List.getElem?_eq_getElem (by omega))
  have hv' := hv mb es h1 h2
  rw [hx.1] at hv'
  obtain rfl : ebs[i] = eb := by simpa using hv'
  obtain ⟨g1, g2, g3, g4, g5⟩ := hx
  have hne : ∀ k, k ≠ ebs[i] → (w.setCell ⟨ebs[i], 1, none⟩ (.bool true)).heap[k]? = w.heap[k]? := fun k hk => Below.heap_setCell _ _ _ _ hk
  refine ⟨⟨mb, es, ebs, nbs, ?_, ?_, by simpa using h3, by simpa using h4, by simpa using h5, h6, h7, h8, ?_⟩, g4⟩
  · rw [hne a (by rintro rfl; rw [g2] at h1; cases h1)]; exact h1
  · rw [hne mb (by rintro rfl; rw [g2] at h2; cases h2), List.length_set]; exact h2
  · intro j e' eb' nb' hj hj1 hj2
    rw [List.getElem?_set] at hj
    by_cases hij : i = j
    · subst hij
      rw [if_pos rfl, if_pos hlt] at hj
      cases hj
      rw [List.getElem?_eq_getElem (by omega)] at hj1 hj2
      cases hj1
      cases hj2
      refine ⟨g1, ?_, ?_, g4, g5⟩
      · rw [heap_setCell_same w _ 1 _ _ _ _ g2]
        rfl
      · exact g3.of_block (hne _ (by intro e0; obtain ⟨arr, q1, _⟩ := g3; rw [e0, g2] at q1; cases q1))
    · rw [if_neg hij] at hj
      obtain ⟨q1, q2, q3, q4, q5⟩ := h9 j e' eb' nb' hj hj1 hj2
      have hne' : eb' ≠ ebs[i] := by
        intro e0
        subst e0
        have hj3 := (List.getElem?_eq_some_iff.1 hj1).1
        have : ebs[j] = ebs[i] := (List.getElem?_eq_some_iff.1 hj1).2
        have hp := List.pairwise_iff_getElem.1 h8
        rcases Nat.lt_or_gt_of_ne hij with hl | hl
        · exact hp i j (by omega) hj3 hl this.symm
        · exact hp j i hj3 (by omega) hl this
      refine ⟨q1, by rw [hne _ hne']; exact q2, ?_, q4, q5⟩
      exact q3.of_block (hne _ (by intro e0; obtain ⟨arr, r1, _⟩ := q3; rw [e0, g2] at r1; cases r1))

theorem PSh.look_val {w : World} {F : Nat → Prop} {a : Nat} {ents : List En} (h : PSh w F a ents) {m : Mo} {i : Nat} (hi : idxE ents m = some i) {eb : Nat}
    (hr : ∀ mb, w.heap[a]? = some (.cells #[.map (some mb)] 82 (0, 0)) → (Instr.lookup 80 (.map (some mb)) (.agg #[.string m.1, .int .i64 m.2]) false).run Tryz.prog w = .ok (.pointer (some ⟨eb, 0, none⟩)) w) :
    ∀ mb es, w.heap[a]? = some (.cells #[.map (some mb)] 82 (0, 0)) → w.heap[mb]? = some (.map es ents.length) → (es[i]?).map (·.val) = some (.pointer (some ⟨eb, 0, none⟩)) := by
  intro mb es h1 h2
  obtain ⟨mb', es', k1, k2, k3, _, _, k6⟩ := h.keys
  obtain rfl : mb' = mb := by rw [h1] at k1; cases k1; rfl
  obtain rfl : es' = es := by rw [h2] at k2; cases k2; rfl
  have hidx : (ents.map (·.m)).findIdx? (fun k => eqM k m) = idxE ents m := by
    rw [List.findIdx?_map]; rfl
  have h3 := run_lookup52 w mb' es' _ h2 _ k6 m
  rw [hidx, hi, hr mb' h1] at h3
  have hlt : i < es'.size := by have := idxE_lt hi; omega
  simp only [Array.getElem?_eq_getElem hlt, Option.map_some, Option.getD_some, Result.ok.injEq, and_true] at h3 ⊢
  rw [h3]

set_option maxRecDepth 20000 in
set_option maxHeartbeats 1000000 in
theorem Retract_calls (w : World) (F : Nat → Prop) (a : Nat) (ents : List En) (m : Mo) (h : PSh w F a ents) (hF : ∀ k, F k → k < w.heap.size) :
    Calls Tryz.prog 34 #[.pointer (some ⟨a, 0, none⟩), mv m] w fun e w' => e = .returned (.int .i64 (retractE ents m).1) ∧ PSh w' F a (retractE ents m).2 ∧ Upd F w w' := by
  unfold mv
  obtain ⟨mb, ha, hFa, hFm, hlook⟩ := h.look m
  have hal := hF a hFa
  have hml := hF mb hFm
  have c0 : (w.alloc (.cells #[.string m.1, .int .i64 m.2] 33)).cell? ⟨a, 0, none⟩ = some (.map (some mb)) := by
    rw [World.cell?_of_block (w := w) (Below.heap_alloc _ _ _ hal), cell_of_block ha]; rfl
  have hP : ∀ n, PSh ((w.alloc (.cells #[.string m.1, .int .i64 m.2] 33)).drewN n) F a ents := fun n => h.of_blocks (fun k hk => Below.heap_alloc _ _ _ (hF k hk))
  have HP := hide hP
  have HU := hide (fun n => Upd.of_below (S := F) (below_drewN (below_one w (.cells #[.string m.1, .int .i64 m.2] 33)) n))
  clear h hP
  rcases hlook with ⟨hi, hr⟩ | ⟨i, e, eb, nb, hi, he, heb, hrow, hFe, hFn, hr⟩
  · have hr' := fun n => hr ((w.alloc (.cells #[.string m.1, .int .i64 m.2] 33)).drewN n) (Below.heap_alloc _ _ _ hml)
    have HI := hide hi
    have HH := hide ha
    clear hr hi ha
    obtain ⟨R, hR⟩ : ∃ R, retractE ents m = R := ⟨_, rfl⟩
    rw [hR]
    have HR : Hid (R = (7, ents)) := by show R = _; rw [← hR, retractE, unhide HI]
    clear hR
    go_enter Tryz.func34, Tryz.ntmps34
    go_wp2
    go_quiet (fail)
    go_wp2
    go_ret
    rw [unhide HR]
    exact ⟨rfl, unhide HP _, unhide HU _⟩
  · have hr' := fun n => hr ((w.alloc (.cells #[.string m.1, .int .i64 m.2] 33)).drewN n) (Below.heap_alloc _ _ _ hml)
    have hel := hF eb hFe
    have c1 : (w.alloc (.cells #[.string m.1, .int .i64 m.2] 33)).cell? ⟨eb, 1, none⟩ = some (.bool e.ret) := by
      rw [World.cell?_of_block (w := w) (Below.heap_alloc _ _ _ hel), cell_of_block heb]; rfl
    have f1 : (w.alloc (.cells #[.string m.1, .int .i64 m.2] 33)).frozen? ⟨eb, 1, none⟩ = false := by
      rw [World.frozen?_of_block (w := w) (Below.heap_alloc _ _ _ hel)]; simp [World.frozen?, heb]
    have HV := hide (fun n => (unhide HP n).look_val hi (fun mb' hmb => by
      have e0 : ((w.alloc (.cells #[.string m.1, .int .i64 m.2] 33)).drewN n).heap[a]? = w.heap[a]? := Below.heap_alloc _ _ _ hal
      rw [e0, ha] at hmb
      cases hmb
      exact hr' n))
    have HI := hide hi
    have HE := hide he
    have HH := hide ha
    clear hr hi ha he heb hrow
    obtain ⟨R, hR⟩ : ∃ R, retractE ents m = R := ⟨_, rfl⟩
    rw [hR]
    have HR : Hid (R = if e.ret then (4, ents) else (0, ents.set i { e with ret := true })) := by show R = _; rw [← hR, retractE, unhide HI]; simp only [unhide HE]
    clear hR
    obtain ⟨q, hq⟩ : ∃ q, e.ret = q := ⟨_, rfl⟩
    rw [hq] at c1
    have HQ := hide hq
    clear hq
    cases q
    · go_enter Tryz.func34, Tryz.ntmps34
      go_wp2
      go_quiet (fail)
      go_wp2
      go_ret
      rw [unhide HR, unhide HQ]
      refine ⟨rfl, ?_, ?_⟩
      · exact ((unhide HP nq).setRet (unhide HE) (unhide HV nq)).1
      · exact (unhide HU nq).setCell _ _ (Or.inl hFe)
    · go_enter Tryz.func34, Tryz.ntmps34
      go_wp2
      go_quiet (fail)
      go_wp2
      go_ret
      rw [unhide HR, unhide HQ]
      exact ⟨rfl, unhide HP _, unhide HU _⟩
end Go.Proofs.YtijpgamdpcgneaaGreat
