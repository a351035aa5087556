import Derived.Test.YtijpgamdpcgneaaGreatY
namespace Go.Proofs.YtijpgamdpcgneaaGreat
open Go.RowKit Go.MapKept

theorem CRow.set {w : World} {g : Nat} {e : TypeId} {size n : Nat} {xs : List Value} {cap : Nat} (h : CRow w g e size n xs cap) {j : Nat} (hj : j < n * size) (u : Value) : CRow (w.setCell ⟨g, j, none⟩ u) g e size n (xs.set j u) cap := by
  obtain ⟨h1, h2, h3, cur, h4, h5, h6⟩ := h
  refine ⟨by simpa using h1, h2, h3, _, heap_setCell_same _ _ _ _ _ _ _ h4, by simpa using h5, ?_⟩
  rw [← h6]
  apply List.ext_getElem?
  intro i
  simp only [Array.toList_setIfInBounds, List.getElem?_take, List.getElem?_set, List.length_take]
  by_cases hi : i < n * size
  · by_cases hij : j = i
    · subst hij
      have hjc : j < cur.size := by rw [h5]; exact Nat.lt_of_lt_of_le hj (Nat.mul_le_mul_right _ h2)
      simp only [hi, if_true, Array.length_toList]
      rw [if_pos hjc, if_pos (by rw [Nat.lt_min]; exact ⟨hi, hjc⟩)]
    · simp [hij]
  · by_cases hij : j = i
    · omega
    · simp [hij]

set_option maxRecDepth 20000 in
set_option maxHeartbeats 1000000 in
theorem RRetract_calls (w : World) (F : Nat → Prop) (a : Nat) (ents : List En) (hl : ents.length ≤ 60) (m : Mo) (h : RSh w F a ents) (hF : ∀ k, F k → k < w.heap.size) :
    Calls Tryz.prog 79 #[.pointer (some ⟨a, 0, none⟩), mv m] w fun e w' => e = .returned (.int .i64 (retractE ents m).1) ∧ RSh w' F a (retractE ents m).2 ∧ Upd F w w' := by
  have H := hide h
  obtain ⟨v, us, h1, h2, h3, h4, h5, h6⟩ := h
  have hal := hF a h2
  have c0 : w.cell? ⟨a, 0, none⟩ = some v := by rw [cell_of_block h1]; rfl
  have cS := place_calls (w.alloc (.cells #[.string m.1, .int .i64 m.2] 33)) F a ents hl m ((unhide H).of_blocks (fun k hk => Below.heap_alloc _ _ _ (hF k hk))) (fun k hk => by have := hF k hk; simp; omega)
  obtain ⟨R, hR⟩ : ∃ R, retractE ents m = R := ⟨_, rfl⟩
  rw [hR]
  have HR := hide hR
  clear hR
  have H1 := hide h1
  have H4 := hide h4
  have H5 := hide h5
  have H6 := hide h6
  clear h1 h4 h5 h6
  unfold mv at cS ⊢
  cases hi : idxE ents m with
  | none =>
    have HRR : Hid (R = (7, ents)) := by show R = _; rw [← unhide HR, retractE, hi]
    rw [plcE, hi] at cS
    simp only at cS
    clear hi
    go_enter Tryz.func79, Tryz.ntmps79
    go_wp2_with fail
    refine cS.mono ?_
    rintro e W1 ⟨rfl, hb1⟩
    clear cS
    go_wp2
    go_ret
    rw [unhide HRR]
    have hbw : Below w.heap.size w W1 := (below_one _ _).trans (hb1.mono (by simp))
    exact ⟨rfl, (unhide H).of_blocks (fun k hk => hbw.block k (hF k hk)), Upd.of_below hbw⟩
  | some i =>
    rw [plcE, hi] at cS
    simp only at cS
    have hil := idxE_lt hi
    obtain ⟨e, he⟩ : ∃ e, ents[i]? = some e := ⟨_, List.getElem?_eq_getElem hil⟩
    obtain ⟨u, hu⟩ : ∃ u, us[i]? = some u := ⟨_, List.getElem?_eq_getElem (by omega)⟩
    have HRR : Hid (R = if e.ret then (4, ents) else (0, ents.set i { e with ret := true })) := by show R = _; rw [← unhide HR, retractE, hi]; simp only [he]
    have t3 := (cellsE_at ents us i e u he hu).2.2.2
    rcases unhide H4 with ⟨_, hn, _⟩ | ⟨g, cp, rfl, hrow⟩
    · omega
    have hgF := unhide H5 g rfl
    have hgl : g < w.heap.size := hF g hgF
    have HROW := hide hrow
    have HE := hide he
    have HU := hide hu
    have HT3 := hide t3
    clear hrow he hu t3 hi
    go_enter Tryz.func79, Tryz.ntmps79
    go_wp2_with fail
    refine cS.mono ?_
    rintro e' W1 ⟨rfl, hb1⟩
    clear cS
    have hbw : Below w.heap.size w W1 := (below_one _ _).trans (hb1.mono (by simp))
    have d0 := (hbw.cell (p := ⟨a, 0, none⟩) hal).trans c0
    have d3 := (hbw.cell (p := ⟨g, i * 4 + 3, none⟩) hgl).trans ((unhide HROW).cell (unhide HT3))
    have f3 := (hbw.frozen (p := ⟨g, i * 4 + 3, none⟩) hgl).trans ((unhide HROW).frozen _)
    have i1 : (i : Int) < (ents.length : Int) := by omega
    have i2 : ¬ (i : Int) < 0 := by omega
    obtain ⟨q, hq⟩ : ∃ q, e.ret = q := ⟨_, rfl⟩
    rw [hq] at d3
    have HQ := hide hq
    clear hq
    cases q
    · go_wp2
      go_ret
      rw [unhide HRR, unhide HQ]
      refine ⟨rfl, ?_, (Upd.of_below hbw).setCell _ _ (Or.inl hgF)⟩
      have hne : ∀ k, k ≠ g → (W1.setCell ⟨g, i * 4 + 3, none⟩ (.bool true)).heap[k]? = W1.heap[k]? := fun k hk => Below.heap_setCell _ _ _ _ hk
      have hR1 := (unhide HROW).of_block (w' := W1) (hbw.block g hgl)
      have hkind : ∃ c, w.heap[g]? = some (.cells c 184 (0, 0)) := by obtain ⟨_, _, _, cur, q4, _⟩ := unhide HROW; exact ⟨cur, q4⟩
      obtain ⟨cg, hcg⟩ := hkind
      refine ⟨_, us, ?_, h2, by simpa using h3, ?_, unhide H5, ?_⟩
      · rw [hne a (by rintro rfl; have := unhide H1; rw [hcg] at this; cases this), hbw.block a hal]
        exact unhide H1
      · have := hR1.set (j := i * 4 + 3) (by omega) (.bool true)
        rw [← cellsE_set ents us i e (unhide HE) h3] at this
        simp only [Bool.false_eq_true, if_false, List.length_set]
        exact Or.inr ⟨g, cp, rfl, this⟩
      · intro j e' u' hj hu'
        have hj' : ∃ e0, ents[j]? = some e0 ∧ e0.needs = e'.needs := by
          simp only [Bool.false_eq_true, if_false, List.getElem?_set] at hj
          split at hj
          · rename_i hij
            subst hij
            first | rw [if_pos hil] at hj | skip
            cases hj
            exact ⟨e, unhide HE, rfl⟩
          · exact ⟨e', hj, rfl⟩
        obtain ⟨e0, he0, hne0⟩ := hj'
        obtain ⟨g1, g2⟩ := unhide H6 j e0 u' he0 hu'
        rw [← hne0]
        refine ⟨g1.of_block ?_, g2⟩
        intro k hk
        have hkF := hF k (g2 k hk)
        rw [hne k ?_, hbw.block k hkF]
        rintro rfl
        rcases g1 with ⟨rfl, _⟩ | ⟨g', cap', rfl, _, _, _, cur', q4, _⟩
        · cases hk
        · cases hk
          rw [hcg] at q4
          cases q4
    · go_wp2
      go_ret
      rw [unhide HRR, unhide HQ]
      exact ⟨rfl, (unhide H).of_blocks (fun k hk => hbw.block k (hF k hk)), Upd.of_below hbw⟩

set_option maxRecDepth 20000 in
set_option maxHeartbeats 1000000 in
theorem RNeeds_calls (w : World) (F : Nat → Prop) (a : Nat) (ents : List En) (hl : ents.length ≤ 60) (m : Mo) (h : RSh w F a ents) (hF : ∀ k, F k → k < w.heap.size) :
    Calls Tryz.prog 81 #[.pointer (some ⟨a, 0, none⟩), mv m] w fun e w' => (∃ u, e = .returned (.tuple #[u, .int .i64 (needsE ents m).1]) ∧ LstAt w' u (needsE ents m).2 ∧ ∀ g, u.ownBlock = some g → F g) ∧ Below w.heap.size w w' := by
  have H := hide h
  obtain ⟨v, us, h1, h2, h3, h4, h5, h6⟩ := h
  have hal := hF a h2
  have c0 : w.cell? ⟨a, 0, none⟩ = some v := by rw [cell_of_block h1]; rfl
  have cS := place_calls (w.alloc (.cells #[.string m.1, .int .i64 m.2] 33)) F a ents hl m ((unhide H).of_blocks (fun k hk => Below.heap_alloc _ _ _ (hF k hk))) (fun k hk => by have := hF k hk; simp; omega)
  obtain ⟨R, hR⟩ : ∃ R, needsE ents m = R := ⟨_, rfl⟩
  rw [hR]
  have HR := hide hR
  clear hR
  have H4 := hide h4
  have H5 := hide h5
  have H6 := hide h6
  clear h1 h4 h5 h6
  unfold mv at cS ⊢
  cases hi : idxE ents m with
  | none =>
    have HRR : Hid (R = (7, [])) := by show R = _; rw [← unhide HR, needsE, hi]
    rw [plcE, hi] at cS
    simp only at cS
    clear hi
    go_enter Tryz.func81, Tryz.ntmps81
    go_wp2_with fail
    refine cS.mono ?_
    rintro e W1 ⟨rfl, hb1⟩
    clear cS
    go_wp2
    go_ret2
    rw [unhide HRR]
    have hbw : Below w.heap.size w W1 := (below_one _ _).trans (hb1.mono (by simp))
    exact ⟨⟨_, rfl, Or.inl ⟨rfl, rfl⟩, by intro g hg; cases hg⟩, hbw⟩
  | some i =>
    rw [plcE, hi] at cS
    simp only at cS
    have hil := idxE_lt hi
    obtain ⟨e, he⟩ : ∃ e, ents[i]? = some e := ⟨_, List.getElem?_eq_getElem hil⟩
    obtain ⟨u, hu⟩ : ∃ u, us[i]? = some u := ⟨_, List.getElem?_eq_getElem (by omega)⟩
    have HRR : Hid (R = (0, e.needs)) := by show R = _; rw [← unhide HR, needsE, hi]; simp only [he]
    have t2 := (cellsE_at ents us i e u he hu).2.2.1
    rcases unhide H4 with ⟨_, hn, _⟩ | ⟨g, cp, rfl, hrow⟩
    · omega
    have hgF := unhide H5 g rfl
    have hgl : g < w.heap.size := hF g hgF
    obtain ⟨g1, g2⟩ := unhide H6 i e u he hu
    have hform : ∃ ua ul uc, u = .slice ua ul uc := by
      rcases g1 with ⟨rfl, _⟩ | ⟨g', cap', rfl, _⟩
      · exact ⟨_, _, _, rfl⟩
      · exact ⟨_, _, _, rfl⟩
    obtain ⟨ua, ul, uc, rfl⟩ := hform
    have HROW := hide hrow
    have HT2 := hide t2
    have G1 := hide g1
    have G2 := hide g2
    clear hrow he hu t2 hi g1 g2
    go_enter Tryz.func81, Tryz.ntmps81
    go_wp2_with fail
    refine cS.mono ?_
    rintro e' W1 ⟨rfl, hb1⟩
    clear cS
    have hbw : Below w.heap.size w W1 := (below_one _ _).trans (hb1.mono (by simp))
    have d0 := (hbw.cell (p := ⟨a, 0, none⟩) hal).trans c0
    have d2 := (hbw.cell (p := ⟨g, i * 4 + 2, none⟩) hgl).trans ((unhide HROW).cell (unhide HT2))
    have i1 : (i : Int) < (ents.length : Int) := by omega
    have i2 : ¬ (i : Int) < 0 := by omega
    go_wp2
    go_ret2
    rw [unhide HRR]
    refine ⟨⟨_, rfl, ?_, unhide G2⟩, hbw⟩
    have g3 := (unhide G1).of_block (w' := W1) (fun k hk => hbw.block k (hF k (unhide G2 k hk)))
    rcases g3 with ⟨h0, h00, _⟩ | ⟨g', cap', h0, hr⟩
    · exact Or.inl ⟨h0, List.eq_nil_of_length_eq_zero h00⟩
    · have := hr.row.lst
      rw [h0]
      exact this
end Go.Proofs.YtijpgamdpcgneaaGreat
