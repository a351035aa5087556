import Derived.Test.YtijpgamdpcgneaaGreatY3
import Derived.Deep.RegionLaw
namespace Go.Proofs.YtijpgamdpcgneaaGreat
open Go.RowKit Go.MapKept

theorem Tryz.info184 : (Tryz.prog.info? 184).map (fun i => (i.zero, i.size, i.bytes)) = some (some (Value.agg #[.string ⟨#[]⟩, .int .i64 0, .slice none 0 0, .bool false]), 4, 56) := by kernel_rfl

theorem step_append_gen {ops : Array Oper} {o : Oper} {a : Act} {K : Act → World → Prop} {Q : Exit → Act → World → Prop} {E : Prop} (w : World) (hgd : o.guard = none) (s x : Operand) (t : TypeId)
    (ho : o.op = .call { callee := .builtin .append, args := #[s, x], argTypes := #[t, t] })
    (e : TypeId) (z : Value) (size bytes : Nat) (ht : Tryz.prog.underlying t = some (.slice e)) (hinfo : (Tryz.prog.info? e).map (fun i => (i.zero, i.size, i.bytes)) = some (some z, size, bytes))
    (hzs : z.cells.size = size) (hsz : 0 < size) (v : Value) (n : Nat) (xs : List Value) (hs : a.eval s = v) (hown : Own w e size v n xs)
    (ad : Addr) (m c : Nat) (news : List Value) (hx : a.eval x = .slice (some ad) m c) (hl : news.length = m * size) (hnews : ∀ j u, news[j]? = some u → w.cell? (ad.add j) = some u) (h1 : ∀ u ∈ news, u.oneCell' = true)
    (h63 : n + m ≤ maxLen) (hbytes : (n + m) * bytes ≤ 140737488355328) (hm : 0 < m ∨ v ≠ .slice none 0 0)
    (h : ∀ g cap w', CRow w' g e size (n + m) (xs ++ news) cap → Upd (fun k => v.ownBlock = some k) w w' → (v.ownBlock = some g ∨ w.heap.size ≤ g) → K (a.put o.dst (.slice (some ⟨g, 0, none⟩) (n + m) cap)) w') :
    if Region.wanted o (yielded ops a.tmps) = true then Oper.wp Tryz.prog o a w K Q else E := by
  have hw : Region.wanted o (yielded ops a.tmps) = true := by simp [Region.wanted, hgd]
  rw [if_pos hw]
  exact wp_append_gen w s x t ho e z size bytes ht hinfo hzs hsz v n xs hs hown ad m c news hx hl hnews h1 h63 hbytes hm h

theorem step_call {ops : Array Oper} {o : Oper} {a : Act} {K : Act → World → Prop} {Q : Exit → Act → World → Prop} {E : Prop} (w : World) (hgd : o.guard = none) (f : Nat) (xs : Array Operand) (ts : Array TypeId)
    (ho : o.op = .call { callee := .value (.func f), args := xs, argTypes := ts }) (args : Array Value) (hargs : xs.map a.eval = args) (R : Ending → World → Prop) (hc : Calls Tryz.prog f args w R)
    (hrun : ∀ args W, (callFunc f args).run Tryz.prog W = .ok (.enter f args) W)
    (h : ∀ e w', R e w' → ∃ v, e = .returned v ∧ K (a.put o.dst v) w') :
    if Region.wanted o (yielded ops a.tmps) = true then Oper.wp Tryz.prog o a w K Q else E := by
  have hw : Region.wanted o (yielded ops a.tmps) = true := by simp [Region.wanted, hgd]
  rw [if_pos hw]
  unfold Oper.wp execOp
  simp only [ho, resolve, invoke]
  simp [hargs, hrun, go_sem]
  refine hc.mono ?_
  intro e w' hR
  obtain ⟨v, rfl, hk⟩ := h e w' hR
  exact hk

theorem step_call1 {ops : Array Oper} {o : Oper} {a : Act} {K : Act → World → Prop} {Q : Exit → Act → World → Prop} {E : Prop} (w : World) (hgd : o.guard = none) (f : Nat) (x : Operand) (ts : Array TypeId)
    (ho : o.op = .call { callee := .value (.func f), args := #[x], argTypes := ts }) (v : Value) (hx : a.eval x = v) (R : Ending → World → Prop) (hc : Calls Tryz.prog f #[v] w R)
    (hrun : ∀ args W, (callFunc f args).run Tryz.prog W = .ok (.enter f args) W)
    (h : ∀ e w', R e w' → ∃ v, e = .returned v ∧ K (a.put o.dst v) w') :
    if Region.wanted o (yielded ops a.tmps) = true then Oper.wp Tryz.prog o a w K Q else E :=
  step_call w hgd f #[x] ts ho #[v] (by simp [hx]) R hc hrun h

theorem run_call42 (args : Array Value) (W : World) : (callFunc 117 args).run Tryz.prog W = .ok (.enter 117 args) W := by
  simp [go_sem]

theorem Own.kind {w : World} {e : TypeId} {size n : Nat} {v : Value} {xs : List Value} (h : Own w e size v n xs) {g : Nat} (hg : v.ownBlock = some g) : ∃ c, w.heap[g]? = some (.cells c e (0, 0)) := by
  rcases h with ⟨rfl, _⟩ | ⟨g', cap', rfl, _, _, _, cur, q4, _⟩
  · cases hg
  · have e1 : g' = g := Option.some.inj hg
    subst e1
    exact ⟨cur, q4⟩

theorem RSh_push {w W3 W4 W5 : World} {F : Nat → Prop} {a : Nat} {ents : List En} {m : Mo} {needs : List Mo} {vA : Value} {us : List Value} (hF : ∀ k, F k → k < w.heap.size) (hbw3 : Below w.heap.size w W3) (hb4 : Below W3.heap.size W3 W4)
    (H1 : W3.heap[a]? = some (.cells #[vA] 146 (0, 0))) (h2 : F a) (h3 : us.length = ents.length) (H4 : Own W3 184 4 vA ents.length (cellsE ents us)) (H5 : ∀ g, vA.ownBlock = some g → F g)
    (H6 : ∀ (i : Nat) (e : En) (u : Value), ents[i]? = some e → us[i]? = some u → Own W3 33 2 u e.needs.length (cellsL e.needs) ∧ ∀ g, u.ownBlock = some g → F g)
    {u : Value} (hownu : Own W4 33 2 u needs.length (cellsL (srt needs))) (hfru : ∀ g, u.ownBlock = some g → W3.heap.size ≤ g) {g2 cp2 : Nat} {o : Obj}
    (hrow5 : CRow W5 g2 184 4 (ents.length + 1) (cellsE ents us ++ [.string m.1, .int .i64 m.2, u, .bool false]) cp2) (hu5 : Upd (fun k => vA.ownBlock = some k) (W4.alloc o) W5)
    (hg5 : vA.ownBlock = some g2 ∨ (W4.alloc o).heap.size ≤ g2) (hane : vA.ownBlock ≠ some a) {W6 : World} (h6 : W6.heap = (W5.setCell ⟨a, 0, none⟩ (.slice (some ⟨g2, 0, none⟩) (ents.length + 1) cp2)).heap) (ho6 : W6.os = W5.os) (ht6 : W6.tape = W5.tape) (hp6 : W6.output = W5.output) :
    RSh W6 (fun k => F k ∨ (w.heap.size ≤ k ∧ k < W6.heap.size)) a (ents ++ [⟨m, srt needs, false⟩]) ∧ Upd F w W6 := by
  have hs3 := hbw3.size
  have hs4 := hb4.size
  have hs5 := hu5.size
  have hz4 : (W4.alloc o).heap.size = W4.heap.size + 1 := by simp
  have hz6 : W6.heap.size = W5.heap.size := by rw [h6]; simp [World.setCell]
  have hal := hF a h2
  have hg2a : g2 ≠ a := by
    rcases hg5 with h | h
    · rintro rfl; exact hane h
    · omega
  have hne : ∀ k, k ≠ a → W6.heap[k]? = W5.heap[k]? := fun k hk => by rw [h6]; exact Below.heap_setCell _ _ _ _ hk
  have hold : ∀ k, k < W4.heap.size → k ≠ a → vA.ownBlock ≠ some k → W6.heap[k]? = W4.heap[k]? := fun k hk hka hkv => by
    rw [hne k hka, hu5.block k (by omega) hkv]
    exact Below.heap_alloc _ _ _ hk
  have ha5 : W5.heap[a]? = some (.cells #[vA] 146 (0, 0)) := by
    rw [hu5.block a (by omega) hane, Below.heap_alloc _ _ _ (by omega), hb4.block a (by omega)]
    exact H1
  refine ⟨⟨.slice (some ⟨g2, 0, none⟩) (ents.length + 1) cp2, us ++ [u], ?_, Or.inl h2, by simp [h3], ?_, ?_, ?_⟩, ⟨?_, ?_, ?_, by omega, ?_⟩⟩
  · rw [h6, heap_setCell_same _ _ _ _ _ _ _ ha5]
    rfl
  · refine Or.inr ⟨g2, cp2, by simp, ?_⟩
    rw [cellsE_append _ _ h3, List.length_append]
    exact hrow5.of_block (hne g2 hg2a)
  · intro g hg
    have e1 : g2 = g := Option.some.inj hg
    subst e1
    rcases hg5 with h | h
    · exact Or.inl (H5 g2 h)
    · have := hrow5.lt
      exact Or.inr ⟨by omega, by omega⟩
  · intro i e u' hi hu'
    by_cases hil : i < ents.length
    · rw [List.getElem?_append_left hil] at hi
      rw [List.getElem?_append_left (by omega)] at hu'
      obtain ⟨g1, g3⟩ := H6 i e u' hi hu'
      refine ⟨g1.of_block ?_, fun g hg => Or.inl (g3 g hg)⟩
      intro k hk
      obtain ⟨c, hc⟩ := g1.kind hk
      have hkl := hF k (g3 k hk)
      rw [hold k (by omega) (by rintro rfl; rw [H1] at hc; cases hc) (by intro e0; obtain ⟨c', hc'⟩ := H4.kind e0; rw [hc] at hc'; cases hc')]
      exact hb4.block k (by omega)
    · have hil' : i = ents.length := by
        have := (List.getElem?_eq_some_iff.1 hi).1
        simp at this
        omega
      subst hil'
      have e1 : (⟨m, srt needs, false⟩ : En) = e := by simpa using hi
      have e2 : u = u' := by rw [← h3] at hu'; simpa using hu'
      subst e1 e2
      have hsl : (srt needs).length = needs.length := srtTo_length _ _ (Nat.le_refl _)
      simp only [hsl]
      have hlt4 : ∀ k, u.ownBlock = some k → k < W4.heap.size := fun k hk => hownu.lt k hk
      refine ⟨hownu.of_block ?_, ?_⟩
      · intro k hk
        have h01 := hfru k hk
        exact hold k (hlt4 k hk) (by omega) (by intro e0; have := hF k (H5 k e0); omega)
      · intro k hk
        have h01 := hfru k hk
        have h02 := hlt4 k hk
        exact Or.inr ⟨by omega, by omega⟩
  · exact ho6.trans (hu5.os.trans (hb4.os.trans hbw3.os))
  · exact ht6.trans (hu5.tape.trans (hb4.tape.trans hbw3.tape))
  · exact hp6.trans (hu5.output.trans (hb4.output.trans hbw3.output))
  · intro k hk hn
    rw [hold k (by omega) (by rintro rfl; exact hn h2) (by intro e0; exact hn (H5 k e0)), hb4.block k (by omega)]
    exact hbw3.block k hk

theorem chk_range (l : List Mo) : 0 ≤ chk l ∧ chk l ≤ 4 := by
  unfold chk
  split
  · omega
  · split
    · omega
    · split <;> omega

set_option maxRecDepth 20000 in
set_option maxHeartbeats 4000000 in
theorem RPublish_calls (w : World) (F : Nat → Prop) (a : Nat) (ents : List En) (hl60 : ents.length ≤ 60) (m : Mo) (v : Value) (needs : List Mo) (hp : ∀ x ∈ m :: needs, x.1.size ≤ 140737488355328) (hnl : needs.length ≤ 140737488355328)
    (h : RSh w F a ents) (hF : ∀ k, F k → k < w.heap.size) (hv : LstAt w v needs) :
    Calls Tryz.prog 77 #[.pointer (some ⟨a, 0, none⟩), mv m, v] w fun e w' => e = .returned (.int .i64 (publishE ents m needs).1) ∧ RSh w' (fun k => F k ∨ (w.heap.size ≤ k ∧ k < w'.heap.size)) a (publishE ents m needs).2 ∧ Upd F w w' := by
  unfold mv
  have hvb : ∀ b off l cap, v = .slice (some ⟨b, off, none⟩) l cap → needs = [] ∨ b < w.heap.size := by
    intro b off l cap he
    by_cases hne : needs = []
    · exact Or.inl hne
    · obtain ⟨b', off', cap', he', hb', _⟩ := hv.at hne
      rw [he] at he'
      cases he'
      exact Or.inr hb'
  have hvW : ∀ W, Below w.heap.size w W → LstAt W v needs := by
    intro W hW
    by_cases hne : needs = []
    · subst hne
      rcases hv with ⟨h1, _⟩ | ⟨b, off, cap, h1, h2, _⟩
      · exact Or.inl ⟨h1, rfl⟩
      · exact Or.inr ⟨b, off, cap, h1, h2, fun i m hi => by simp at hi⟩
    · refine hv.below hW ?_
      intro b off l cap he
      rcases hvb b off l cap he with h0 | h0
      · exact absurd h0 hne
      · exact h0
  have hvshape : v = .slice none 0 0 ∧ needs = [] ∨ ∃ va vc, v = .slice (some va) needs.length vc := by
    rcases hv with h1 | ⟨b, off, cap, h1, _⟩
    · exact Or.inl h1
    · exact Or.inr ⟨_, _, h1⟩
  by_cases hlen : 6 < needs.length
  · have HE : Hid (publishE ents m needs = (1, ents)) := by show _ = _; rw [publishE, if_pos hlen]
    obtain ⟨R, hR⟩ : ∃ R, publishE ents m needs = R := ⟨_, rfl⟩
    rw [hR] at HE ⊢
    clear hR
    have HP := hide (h.of_blocks (w' := w.alloc (.cells #[.string m.1, .int .i64 m.2] 33)) (fun k hk => Below.heap_alloc _ _ _ (hF k hk)))
    rcases hvshape with ⟨_, hn⟩ | ⟨va, vc, rfl⟩
    · subst hn; simp at hlen
    clear h hv hvb hvW
    go_enter Tryz.func77, Tryz.ntmps77
    go_wp2
    go_ret
    rw [unhide HE]
    exact ⟨rfl, (unhide HP).mono (fun k hk => Or.inl hk), Upd.of_below (below_one _ _)⟩
  · have HV := hide hvW
    have H := hide h
    have HPS := hide hp
    have HSH := hide hvshape
    clear hv hvb hvW h hp hvshape
    obtain ⟨R, hR⟩ : ∃ R, publishE ents m needs = R := ⟨_, rfl⟩
    rw [hR]
    have HR := hide hR
    clear hR
    obtain ⟨va, vn, vc, rfl, hvn⟩ : ∃ va vn vc, v = .slice va vn vc ∧ vn = needs.length := by
      rcases unhide HSH with ⟨rfl, hn⟩ | ⟨va, vc, rfl⟩
      · exact ⟨_, _, _, rfl, by simp [hn]⟩
      · exact ⟨_, _, _, rfl, rfl⟩
    subst hvn
    go_enter Tryz.func77, Tryz.ntmps77
    go_upto_region 4 with fail
    go_cut [7] (fun q wc => ∃ g cp, q = .slice (some ⟨g, 0, none⟩) (needs.length + 1) cp ∧ Row wc g 33 (m :: needs) cp ∧ wc.cell? ⟨w.heap.size, 0, none⟩ = some (.string m.1) ∧ wc.cell? ⟨w.heap.size, 1, none⟩ = some (.int .i64 m.2) ∧ Below w.heap.size w wc ∧ w.heap.size < wc.heap.size)
    case first =>
      have hown : Own ((w.alloc (.cells #[.string m.1, .int .i64 m.2] 33)).alloc (.cells #[.string m.1, .int .i64 m.2] 33)) 33 2 (.slice (some ⟨w.heap.size + 1, 0, none⟩) 1 1) 1 (cellsL [m]) := by
        refine Or.inr ⟨_, _, rfl, rfl, by decide, by decide, #[.string m.1, .int .i64 m.2], ?_, rfl, rfl⟩
        have := heap_alloc_new (w.alloc (.cells #[.string m.1, .int .i64 m.2] 33)) (.cells #[.string m.1, .int .i64 m.2] 33)
        have es : (w.alloc (.cells #[.string m.1, .int .i64 m.2] 33)).heap.size = w.heap.size + 1 := by simp
        rw [es] at this
        exact this
      rcases unhide HSH with ⟨he, hn⟩ | ⟨va', vc', he⟩
      · subst hn
        simp only [List.length_nil] at he
        cases he
        go_wp2_with (first
          | (at_builtin; refine wpList_append_nilsrc _ rfl (.tmp 15) (.tmp 16) 29 rfl 33 _ 2 24 Tryz.underlying29 Tryz.info33 _ 1 (cellsL [m]) rfl hown rfl ?_))
        go_meet
        rcases hown with ⟨h0, _⟩ | ⟨g, cp, h0, hr⟩
        · cases h0
        · cases h0
          refine ⟨_, _, rfl, hr.row, by simp [go_sem], by simp [go_sem], below_two _ _ _, by simp; omega⟩
      · cases he
        have hsrc := unhide HV ((w.alloc (.cells #[.string m.1, .int .i64 m.2] 33)).alloc (.cells #[.string m.1, .int .i64 m.2] 33)) (below_two _ _ _)
        have hex : ∃ b off, va' = ⟨b, off, none⟩ := by
          rcases hsrc with ⟨h0, _⟩ | ⟨b, off, cap, h0, _⟩
          · cases h0
          · cases h0
            exact ⟨_, _, rfl⟩
        obtain ⟨b, off, rfl⟩ := hex
        have hnews := hsrc.news
        have HN := hide hnews
        clear hnews hsrc
        go_wp2_with (first
          | (at_builtin; refine wpList_append_gen _ rfl (.tmp 15) (.tmp 16) 29 rfl 33 _ 2 24 Tryz.underlying29 Tryz.info33 rfl (by decide) (.slice (some ⟨w.heap.size + 1, 0, none⟩) 1 1) 1 (cellsL [m]) rfl hown ⟨b, off, none⟩ needs.length _ (cellsL needs) rfl (cellsL_length _) (unhide HN) (cellsL_one _) (by unfold maxLen; omega) (by omega) (Or.inr (by intro e; cases e)) ?_; intro g cp W1 hrow1 hu1 hg1))
        go_meet
        rw [← cellsL_append] at hrow1
        have hs1 := hu1.size
        have hs2 : w.heap.size + 1 + 1 ≤ W1.heap.size := by simpa using hs1
        have hk0 : W1.heap[w.heap.size]? = some (.cells #[.string m.1, .int .i64 m.2] 33 (0, 0)) := by
          rw [hu1.block w.heap.size (by simp; omega) (by intro e; have e' := Option.some.inj e; simp at e'), Below.heap_alloc _ _ _ (by simp)]
          exact heap_alloc_new w _
        refine ⟨_, _, by rw [Nat.add_comm needs.length 1], hrow1.row, by rw [cell_of_block hk0]; rfl, by rw [cell_of_block hk0]; rfl, (below_two w _ _).trans (hu1.below (by simp; omega) ?_), by omega⟩
        intro k hk e
        have e' : w.heap.size + 1 = k := Option.some.inj e
        omega
    case rest =>
      obtain ⟨g, cp, rfl, hrow, p0, p1, hbw, hws⟩ := hcut
      have hlst := hrow.lst
      have cM := modules_calls (.slice (some ⟨g, 0, none⟩) (needs.length + 1) cp) (m :: needs) (by simp; omega) (unhide HPS) (by simp) wc hlst
      obtain ⟨ck, hck⟩ : ∃ ck, chk (m :: needs) = ck := ⟨_, rfl⟩
      rw [hck] at cM
      have hckr := chk_range (m :: needs)
      rw [hck] at hckr
      have HCK := hide hck
      clear hck hrow hlst
      go_wp2_with fail
      refine cM.mono ?_
      rintro e W2 ⟨rfl, hb2⟩
      clear cM
      have hbw2 : Below w.heap.size w W2 := hbw.trans (hb2.mono (by omega))
      have hs2 := hb2.size
      have hP2 : RSh W2 F a ents := (unhide H).of_blocks (fun k hk => hbw2.block k (hF k hk))
      have cP := place_calls W2 F a ents hl60 m hP2 (fun k hk => by have := hF k hk; omega)
      simp only [mv] at cP
      have q0 := (hb2.cell (p := ⟨w.heap.size, 0, none⟩) hws).trans p0
      have q1 := (hb2.cell (p := ⟨w.heap.size, 1, none⟩) hws).trans p1
      clear hP2
      obtain ⟨pl, hpl⟩ : ∃ pl, plcE ents m = pl := ⟨_, rfl⟩
      rw [hpl] at cP
      have HPL := hide hpl
      clear hpl
      go_wp2_with fail
      refine cP.mono ?_
      rintro e W3 ⟨rfl, hb3⟩
      clear cP
      have hbw3 : Below w.heap.size w W3 := hbw2.trans (hb3.mono (by omega))
      have hs3 := hb3.size
      have hP3 : RSh W3 F a ents := (unhide H).of_blocks (fun k hk => hbw3.block k (hF k hk))
      have HP3 := hide hP3
      clear hP3
      by_cases hck0 : ck = 0
      · have hckb : (ck != 0) = false := by simp [hck0]
        have HCK0 := hide hck0
        clear hck0 hckr
        cases hi : idxE ents m with
        | some i =>
          have hpl0 : (0 : Int) ≤ pl := by rw [← unhide HPL, plcE, hi]; simp
          have HI := hide hi
          clear hi
          go_wp2
          go_ret
          have hfin : R = (5, ents) := by
            have hpe : placeErr ents m = 5 := by simp [placeErr, unhide HI]
            rw [← unhide HR, publishE, if_neg hlen, unhide HCK, if_neg (by simp [unhide HCK0]), hpe, if_pos (by decide)]
          rw [hfin]
          exact ⟨rfl, (unhide HP3).mono (fun k hk => Or.inl hk), Upd.of_below hbw3⟩
        | none =>
          have hpl0 : ¬ (0 : Int) ≤ pl := by rw [← unhide HPL, plcE, hi]; simp
          have HI := hide hi
          clear hi
          obtain ⟨vA, us, h1, h2, h3, h4, h5, h6⟩ := unhide HP3
          have hal : a < w.heap.size := hF a h2
          have c0 : W3.cell? ⟨a, 0, none⟩ = some vA := by rw [cell_of_block h1]; rfl
          obtain ⟨vAa, vAc, hvA⟩ : ∃ x y, vA = .slice x ents.length y := by
            rcases h4 with ⟨h0, h00, _⟩ | ⟨g', cap', h0, _⟩
            · exact ⟨_, _, by rw [h0, h00]⟩
            · exact ⟨_, _, h0⟩
          by_cases h60 : 60 ≤ ents.length
          · subst hvA
            have h60' : (60 : Int) ≤ (ents.length : Int) := by omega
            clear h1 h4 h5 h6
            go_wp2
            go_ret
            have hfin : R = (6, ents) := by
              have hpe : placeErr ents m = 6 := by simp [placeErr, unhide HI, h60]
              rw [← unhide HR, publishE, if_neg hlen, unhide HCK, if_neg (by simp [unhide HCK0]), hpe, if_pos (by decide)]
            rw [hfin]
            exact ⟨rfl, (unhide HP3).mono (fun k hk => Or.inl hk), Upd.of_below hbw3⟩
          · have hfin : Hid (R = (0, ents ++ [⟨m, srt needs, false⟩])) := by
              have hpe : placeErr ents m = 0 := by simp [placeErr, unhide HI, h60]
              show R = _
              rw [← unhide HR, publishE, if_neg hlen, unhide HCK, if_neg (by simp [unhide HCK0]), hpe, if_neg (by decide)]
            have h60' : ¬ (60 : Int) ≤ (ents.length : Int) := by omega
            have H1 := hide h1
            have H4 := hide h4
            have H5 := hide h5
            have H6 := hide h6
            have cS : ∀ W, LstAt W (.slice va needs.length vc) needs → Calls Tryz.prog 117 #[.slice va needs.length vc] W fun e w' => (∃ ua ul uc, e = .returned (.slice ua ul uc) ∧ Own w' 33 2 (.slice ua ul uc) needs.length (cellsL (srt needs)) ∧ (∀ g, (Value.slice ua ul uc).ownBlock = some g → W.heap.size ≤ g)) ∧ Below W.heap.size W w' := by
              intro W hW
              refine (sorted_calls (.slice va needs.length vc) needs (by omega) W hW).mono ?_
              rintro e w' ⟨⟨u, rfl, ho, hf⟩, hb⟩
              refine ⟨?_, hb⟩
              rcases ho with ⟨rfl, h01⟩ | ⟨gg, cc, rfl, h01⟩
              · exact ⟨_, _, _, rfl, Or.inl ⟨rfl, h01⟩, hf⟩
              · exact ⟨_, _, _, rfl, Or.inr ⟨gg, cc, rfl, h01⟩, hf⟩
            have r0 := (hb3.cell (p := ⟨w.heap.size, 0, none⟩) (by show w.heap.size < W2.heap.size; omega)).trans q0
            have r1 := (hb3.cell (p := ⟨w.heap.size, 1, none⟩) (by show w.heap.size < W2.heap.size; omega)).trans q1
            subst hvA
            have hane : (Value.slice vAa ents.length vAc).ownBlock ≠ some a := by
              intro e0
              rcases unhide H4 with ⟨h0, _⟩ | ⟨g', cap', h0, _, _, _, cur, q4, _⟩
              · rw [h0] at e0; cases e0
              · rw [h0] at e0
                have e1 : g' = a := Option.some.inj e0
                rw [e1, h1] at q4
                cases q4
            have hal3 : a < W3.heap.size := by omega
            have hwl3 : w.heap.size < W3.heap.size := by omega
            have hOA : ∀ W, Below W3.heap.size W3 W → Own W 184 4 (.slice vAa ents.length vAc) ents.length (cellsE ents us) := fun W hW => (unhide H4).of_block (fun g hg => hW.block g (by have := hF g (unhide H5 g hg); omega))
            have HOA := hide hOA
            have cW := cS W3.drew (unhide HV _ hbw3.drew)
            have fA : ∀ W : World, W.heap[a]? = W3.heap[a]? → W.frozen? ⟨a, 0, none⟩ = false := fun W hW => by rw [World.frozen?_of_block (w := W3) hW]; simp [World.frozen?, h1]
            have HFA := hide fA
            clear h1 h4 h5 h6 p0 p1 q0 q1 hOA cS fA
            go_wp2_with fail
            go_region_law (first
              | (refine step_append_gen _ rfl (.tmp 41) (.tmp 46) 144 rfl 184 _ 4 56 Tryz.underlying144 Tryz.info184 rfl (by decide) (.slice vAa ents.length vAc) ents.length (cellsE ents us) rfl (unhide HOA _ (by first | exact hb4' | exact hb4'.alloc hs4 _)) ⟨W4.heap.size, 0, none⟩ 1 1 [.string m.1, .int .i64 m.2, .slice ua ul uc, .bool false] rfl rfl (by simp [go_sem]) (by intro x hx; simp at hx; rcases hx with rfl | rfl | rfl | rfl <;> rfl) (by unfold maxLen; omega) (by omega) (Or.inl (by decide)) ?_; intro g2 cp2 W5 hrow5 hu5 hg5; have hk5 := hu5.block a (by simp; omega) hane; have cA5 : W5.cell? ⟨a, 0, none⟩ = some (.slice vAa ents.length vAc) := ((World.cell?_of_block hk5).trans (cA6 _)); have fA5 : W5.frozen? ⟨a, 0, none⟩ = false := unhide HFA W5 (hk5.trans ((Below.heap_alloc _ _ _ (by omega)).trans (hb4'.block a hal3))))
              | (refine step_call1 W3.drew rfl 117 (.tmp 43) #[29] rfl (.slice va needs.length vc) rfl _ cW run_call42 ?_; rintro e W4 ⟨⟨ua, ul, uc, rfl, hownu, hfru⟩, hb4⟩; have hb4' : Below W3.heap.size W3 W4 := ⟨hb4.os, hb4.tape, hb4.output, hb4.size, hb4.block⟩; have hs4 : W3.heap.size ≤ W4.heap.size := hb4.size; have cA4 : W4.cell? ⟨a, 0, none⟩ = some (.slice vAa ents.length vAc) := (hb4'.cell (p := ⟨a, 0, none⟩) hal3).trans c0; have cA6 : ∀ o, (W4.alloc o).cell? ⟨a, 0, none⟩ = some (.slice vAa ents.length vAc) := (fun o => (World.cell?_of_block (Below.heap_alloc _ _ _ (by show a < W4.heap.size; omega))).trans cA4); have m04 : W4.cell? ⟨w.heap.size, 0, none⟩ = some (.string m.1) := (hb4'.cell (p := ⟨w.heap.size, 0, none⟩) hwl3).trans r0; have m14 : W4.cell? ⟨w.heap.size, 1, none⟩ = some (.int .i64 m.2) := (hb4'.cell (p := ⟨w.heap.size, 1, none⟩) hwl3).trans r1; refine ⟨_, rfl, ?_⟩))
            all_goals
              go_wp2
              go_ret
              rw [unhide hfin]
              have hfru' : ∀ g, (Value.slice ua ul uc).ownBlock = some g → W3.heap.size ≤ g := hfru
              exact ⟨rfl, RSh_push hF hbw3 hb4' (unhide H1) h2 h3 (unhide H4) (unhide H5) (unhide H6) hownu hfru' hrow5 hu5 hg5 hane rfl rfl rfl rfl⟩
      · have hckb : (ck != 0) = true := by simp [hck0]
        go_wp2
        go_ret
        have hfin : R = (ck, ents) := by
          rw [← unhide HR, publishE, if_neg hlen, unhide HCK, if_pos hck0]
        rw [hfin]
        exact ⟨rfl, (unhide HP3).mono (fun k hk => Or.inl hk), Upd.of_below hbw3⟩
end Go.Proofs.YtijpgamdpcgneaaGreat
