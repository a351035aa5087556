import Derived.Test.YtijpgamdpcgneaaGreatV
namespace Go.Proofs.YtijpgamdpcgneaaGreat
open Go.RowKit Go.MapKept

theorem insert_at (W : World) (mb : Nat) (es : Array MapEntry) (clock : Nat) (hm : W.heap[mb]? = some (.map es clock)) (ks : List Mo) (hk : es.toList.map (·.key) = ks.map mv) (m : Mo) (v : Value)
    (hnone : ks.findIdx? (fun k => eqM k m) = none) :
    ∃ W7, (Instr.mapUpdate 80 (.map (some mb)) (.agg #[.string m.1, .int .i64 m.2]) v).run Tryz.prog W = .ok () W7 ∧ W7.heap[mb]? = some (.map (es.push { key := mv m, val := v, born := clock }) (clock + 1)) ∧ (∀ k, k ≠ mb → W7.heap[k]? = W.heap[k]?) ∧ W7.os = W.os ∧ W7.tape = W.tape ∧ W7.output = W.output ∧ W7.heap.size = W.heap.size := by
  refine ⟨_, run_insert52 W mb es clock hm ks hk m v hnone, (heap_set hm).1, fun k hk => (heap_set hm).2 k hk, rfl, rfl, rfl, by simp⟩

set_option maxRecDepth 20000 in
set_option maxHeartbeats 4000000 in
theorem Publish_calls (w : World) (F : Nat → Prop) (a : Nat) (ents : List En) (hl60 : ents.length ≤ 60) (m : Mo) (v : Value) (needs : List Mo) (hp : ∀ x ∈ m :: needs, x.1.size ≤ 140737488355328) (hnl : needs.length ≤ 140737488355328)
    (h : PSh w F a ents) (hF : ∀ k, F k → k < w.heap.size) (hv : LstAt w v needs) :
    Calls Tryz.prog 33 #[.pointer (some ⟨a, 0, none⟩), mv m, v] w fun e w' => e = .returned (.int .i64 (publishE ents m needs).1) ∧ PSh w' (fun k => F k ∨ (w.heap.size ≤ k ∧ k < w'.heap.size)) a (publishE ents m needs).2 ∧ Upd F w w' := by
  unfold mv
  have hvb : ∀ b off l cap, v = .slice (some ⟨b, off, none⟩) l cap → needs = [] ∨ b < w.heap.size := by
    intro b off l cap he
    by_cases hne : needs = []
    · exact Or.inl hne
    · obtain ⟨b', off', cap', he', hb', _⟩ := hv.at hne
      rw [he] at he'
      cases he'
      exact Or.inr hb'
  obtain ⟨va, vc, rfl⟩ := hv.length
  by_cases hlen : 6 < needs.length
  · have HE : Hid (publishE ents m needs = (1, ents)) := by show _ = _; rw [publishE, if_pos hlen]
    obtain ⟨R, hR⟩ : ∃ R, publishE ents m needs = R := ⟨_, rfl⟩
    rw [hR] at HE ⊢
    clear hR
    have HP := hide (h.of_blocks (w' := w.alloc (.cells #[.string m.1, .int .i64 m.2] 33)) (fun k hk => Below.heap_alloc _ _ _ (hF k hk)))
    clear h hv
    go_enter Tryz.func33, Tryz.ntmps33
    go_wp2
    go_ret
    rw [unhide HE]
    exact ⟨rfl, (unhide HP).mono (fun k hk => Or.inl hk), Upd.of_below (below_one _ _)⟩
  · have cF := fun W hW => FromPlain_calls (.slice va needs.length vc) needs (by omega) W hW
    have hvW : ∀ W, Below w.heap.size w W → LstAt W (.slice va needs.length vc) needs := by
      intro W hW
      by_cases hne : needs = []
      · subst hne
        rcases hv with ⟨h1, _⟩ | ⟨b, off, cap, h1, h2, _⟩
        · exact Or.inl ⟨h1, rfl⟩
        · exact Or.inr ⟨b, off, cap, h1, h2, fun i m hi => by simp at hi⟩
      · refine hv.below hW ?_
        intro b off l cap he
        rcases hvb b off l cap he with h0 | h0
        · exact absurd h0 hne
        · exact h0
    have HV := hide hvW
    have H := hide h
    have HPS := hide hp
    clear hv hvb hvW h hp
    obtain ⟨R, hR⟩ : ∃ R, publishE ents m needs = R := ⟨_, rfl⟩
    rw [hR]
    have HR := hide hR
    clear hR
    go_enter Tryz.func33, Tryz.ntmps33
    go_upto_region 3 with fail
    go_cut [7, 8] (fun p q wc => ∃ pb g, p = .pointer (some ⟨pb, 0, none⟩) ∧ q = .slice (some ⟨g, 0, none⟩) needs.length needs.length ∧ Row wc g 78 needs needs.length ∧ w.heap.size < g ∧ w.heap.size < pb ∧ wc.heap[pb]? = some (.cells #[.string m.1, .int .i64 m.2] 78 (0, 0)) ∧ Below w.heap.size w wc)
    case first =>
      go_region_held3 (fun w' => w'.cell? ⟨w.heap.size, 0, none⟩ = some (.string m.1) ∧ w'.cell? ⟨w.heap.size, 1, none⟩ = some (.int .i64 m.2))
        (first | (simp [go_sem]; done) | (simp [go_sem, *]; done))
        (first | (go_at_call 52; refine (cF _ (unhide HV _ (by first | exact (below_one _ _).drew | exact (below_two _ _ _).drew))).mono ?_; rintro e W' ⟨rfl, hrow, hb⟩; have k0 := hb.cell (p := ⟨w.heap.size, 0, none⟩) (by simp <;> omega); have k1 := hb.cell (p := ⟨w.heap.size, 1, none⟩) (by simp <;> omega); have k2 := fun h => hb.cell (p := ⟨w.heap.size + 1, 0, none⟩) h; have k3 := fun h => hb.cell (p := ⟨w.heap.size + 1, 1, none⟩) h; have f2 := fun h => hb.frozen (p := ⟨w.heap.size + 1, 0, none⟩) h; have f3 := fun h => hb.frozen (p := ⟨w.heap.size + 1, 1, none⟩) h; have hlt : w.heap.size < W'.heap.size := (by have := hb.size; simp at this; omega); have ka0 : ∀ o, (W'.alloc o).cell? ⟨w.heap.size, 0, none⟩ = some (.string m.1) := (fun o => (World.cell?_of_block (w := W') (a := ⟨w.heap.size, 0, none⟩) (Below.heap_alloc W' o w.heap.size hlt)).trans (k0.trans (by simp [go_sem]))); have ka1 : ∀ o, (W'.alloc o).cell? ⟨w.heap.size, 1, none⟩ = some (.int .i64 m.2) := (fun o => (World.cell?_of_block (w := W') (a := ⟨w.heap.size, 1, none⟩) (Below.heap_alloc W' o w.heap.size hlt)).trans (k1.trans (by simp [go_sem])))))
      · go_wp2_with fail
        go_meet
        have hs := hb.size
        have hbw : Below w.heap.size w W' := (below_one _ _).drew.trans (hb.mono (by simp))
        refine ⟨_, _, rfl, rfl, (by simpa using hrow.alloc (.cells #[.string m.1, .int .i64 m.2] 78)), by omega, hlt, heap_alloc_new W' _, hbw.alloc (by omega) _⟩
      · go_wp2_with fail
        go_meet
        have hs := hb.size
        have hbw : Below w.heap.size w W' := (below_two _ _ _).drew.trans (hb.mono (by simp; omega))
        have hpk : W'.heap[w.heap.size + 1]? = some (.cells #[.string ⟨#[]⟩, .int .i64 0] 78 (0, 0)) := by
          rw [hb.block (w.heap.size + 1) (by simp)]
          have := heap_alloc_new (w.alloc (.cells #[.string m.1, .int .i64 m.2] 33)) (.cells #[.string ⟨#[]⟩, .int .i64 0] 78)
          have es : (w.alloc (.cells #[.string m.1, .int .i64 m.2] 33)).heap.size = w.heap.size + 1 := by simp
          rw [es] at this
          exact this
        have hpk2 := heap_setCell_same _ _ 1 (.int .i64 m.2) _ _ _ (heap_setCell_same _ _ 0 (.string m.1) _ _ _ hpk)
        refine ⟨_, _, rfl, rfl, ?_, by omega, by omega, hpk2, (hbw.setCell (by show w.heap.size ≤ w.heap.size + 1; omega) _).setCell (by show w.heap.size ≤ w.heap.size + 1; omega) _⟩
        refine Row.of_block (w := W') (by simpa using hrow) ?_
        rw [Below.heap_setCell _ _ _ _ (by show w.heap.size + 1 + 1 ≠ w.heap.size + 1; omega), Below.heap_setCell _ _ _ _ (by show w.heap.size + 1 + 1 ≠ w.heap.size + 1; omega)]
    case rest =>
      obtain ⟨pb, g, rfl, rfl, hrow, hg, hpb, hpbk, hbw⟩ := hcut
      have c0 : wc.cell? ⟨pb, 0, none⟩ = some (.string m.1) := by rw [cell_of_block hpbk]; rfl
      have c1 : wc.cell? ⟨pb, 1, none⟩ = some (.int .i64 m.2) := by rw [cell_of_block hpbk]; rfl
      have hgl := hrow.lt
      have hpl : pb < wc.heap.size := (Array.getElem?_eq_some_iff.1 hpbk).1
      have hcrow := (hrow.alloc (.cells #[.string m.1, .int .i64 m.2] 78)).crow (by unfold maxLen; omega)
      have hws := hbw.size
      have HROW := hide hrow
      have HPBK := hide hpbk
      clear hrow hpbk cF
      go_wp2_with (first
        | (at_builtin; refine wpList_append_full _ rfl (.tmp 17) (.tmp 19) 70 rfl 78 _ 2 24 Tryz.underlying70 Tryz.info78 rfl g needs.length (cellsL needs) rfl hcrow ⟨wc.heap.size, 0, none⟩ 1 1 (cellsL [m]) rfl rfl (by simp [cellsL, go_sem]) (by unfold maxLen; omega) (by omega) (by decide) ?_; intro g' cp' W1 hrow1 hb1 hg1))
      have hb1' : Below wc.heap.size wc W1 := (below_one _ _).trans (hb1.mono (by simp))
      have hrow1' : Row W1 g' 78 (needs ++ [m]) cp' := by
        rw [← cellsL_append] at hrow1
        exact hrow1.row
      have hlst := hrow1'.lst
      rw [List.length_append] at hlst
      have cC := Check_calls (.slice (some ⟨g', 0, none⟩) (needs.length + 1) cp') (needs ++ [m]) (by simp; omega) (by simp) W1 hlst (by intro b off l cap he; cases he; exact hrow1'.lt)
      rw [chk_rot] at cC
      obtain ⟨ck, hck⟩ : ∃ ck, chk (m :: needs) = ck := ⟨_, rfl⟩
      rw [hck] at cC
      have HCK := hide hck
      clear hck hrow1 hrow1' hlst hb1 hcrow
      refine cC.mono ?_
      rintro e W2 ⟨rfl, hb2⟩
      clear cC
      have hb2' : Below wc.heap.size wc W2 := hb1'.trans (hb2.mono hb1'.size)
      have hbw2 : Below w.heap.size w W2 := hbw.trans (hb2'.mono hws)
      have hP2 : PSh W2 F a ents := (unhide H).of_blocks (fun k hk => hbw2.block k (hF k hk))
      by_cases hck0 : ck = 0
      · have hckb : (ck != 0) = false := by simp [hck0]
        have HCK0 := hide hck0
        clear hck0
        have cP := checkPlace_calls W2 F a ents hl60 m hP2 (fun k hk => by have := hF k hk; have := hbw2.size; omega)
        obtain ⟨pe, hpe⟩ : ∃ pe, placeErr ents m = pe := ⟨_, rfl⟩
        rw [hpe] at cP
        simp only [mv] at cP
        have HPE := hide hpe
        have HP2 := hide hP2
        clear hpe hP2
        have d0 := (hb2'.cell (p := ⟨pb, 0, none⟩) hpl).trans c0
        have d1 := (hb2'.cell (p := ⟨pb, 1, none⟩) hpl).trans c1
        go_wp2_with fail
        refine cP.mono ?_
        rintro e W3 ⟨rfl, hb3⟩
        clear cP
        have hb3' : Below wc.heap.size wc W3 := hb2'.trans (hb3.mono hb2'.size)
        have hbw3 : Below w.heap.size w W3 := hbw.trans (hb3'.mono hws)
        by_cases hpe0 : pe = 0
        · have hpeb : (pe != 0) = false := by simp [hpe0]
          have HPE0 := hide hpe0
          clear hpe0
          have e0 := (hb3'.cell (p := ⟨pb, 0, none⟩) hpl).trans c0
          have e1 := (hb3'.cell (p := ⟨pb, 1, none⟩) hpl).trans c1
          have hP3 : PSh W3 F a ents := (unhide H).of_blocks (fun k hk => hbw3.block k (hF k hk))
          obtain ⟨mb, es, ha3, hm3, hsz3, hFa, hFm, hkeys⟩ := hP3.keys
          have hidx : (ents.map (·.m)).findIdx? (fun k => eqM k m) = none := by
            rw [List.findIdx?_map]
            have hpz := unhide HPE
            rw [unhide HPE0, placeErr] at hpz
            cases hi : idxE ents m with
            | none => exact hi
            | some i => rw [hi] at hpz; simp at hpz
          have hw3 := hbw3.size
          have hc3 := hb3'.size
          have hal : a < W3.heap.size := by have := hF a hFa; omega
          have hml : mb < W3.heap.size := by have := hF mb hFm; omega
          have hamb : a ≠ mb := by rintro rfl; rw [ha3] at hm3; cases hm3
          have hpbm : pb ≠ mb := by rintro rfl; have := hF _ hFm; omega
          have m0 : W3.cell? ⟨a, 0, none⟩ = some (.map (some mb)) := by rw [cell_of_block ha3]; rfl
          have cO := fun W => Own_calls m W (by have := unhide HPS m (by simp); omega)
          simp only [mv] at cO
          have cD := fun W hW => Ordered_calls (.slice (some ⟨g, 0, none⟩) needs.length needs.length) needs (by omega) (fun x hx => unhide HPS x (by simp [hx])) W hW
          have HROW3 : Hid (Row W3 g 78 needs needs.length) := (unhide HROW).below hb3' hgl
          have HINS := hide (fun W hW v => insert_at W mb es ents.length hW _ hkeys m v hidx)
          have HM3 := hide hm3
          have HP3 := hide hP3
          have HA3 := hide ha3
          have hpl3 : pb < W3.heap.size := by omega
          have hgl3 : g < W3.heap.size := by omega
          clear hP3 hm3 ha3 hkeys hidx c0 c1 d0 d1
          go_wp2_with fail
          go_region_held3 (fun w' => w'.cell? ⟨a, 0, none⟩ = some (.map (some mb)) ∧ w'.cell? ⟨pb, 0, none⟩ = some (.string m.1) ∧ w'.cell? ⟨pb, 1, none⟩ = some (.int .i64 m.2))
            (first | exact ⟨q0, q1, q2⟩ | exact ⟨r0, r1, r2⟩ | exact ⟨l0, l1, l2⟩ | exact ⟨k0, k1, k2⟩ | (simp [go_sem, m0, e0, e1]; done))
            (first
              | (go_at_call 55; refine (cO _).mono ?_; rintro e W4 ⟨rfl, hb4⟩; have k0 : W4.cell? ⟨a, 0, none⟩ = some (.map (some mb)) := (hb4.cell (p := ⟨a, 0, none⟩) hal).trans m0; have k1 : W4.cell? ⟨pb, 0, none⟩ = some (.string m.1) := (hb4.cell (p := ⟨pb, 0, none⟩) hpl3).trans e0; have k2 : W4.cell? ⟨pb, 1, none⟩ = some (.int .i64 m.2) := (hb4.cell (p := ⟨pb, 1, none⟩) hpl3).trans e1; have hr4 := (unhide HROW3).of_block (w' := W4) (hb4.block g hgl3); have s4 : W3.heap.size ≤ W4.heap.size := hb4.size)
              | (go_at_call 54; refine (cD _ hr4.lst).mono ?_; rintro e W5 ⟨rfl, hr5, hb5⟩; have s5 := hb5.size; have l0 : W5.cell? ⟨a, 0, none⟩ = some (.map (some mb)) := (hb5.cell (p := ⟨a, 0, none⟩) (by show a < W4.heap.size; omega)).trans k0; have l1 : W5.cell? ⟨pb, 0, none⟩ = some (.string m.1) := (hb5.cell (p := ⟨pb, 0, none⟩) (by show pb < W4.heap.size; omega)).trans k1; have l2 : W5.cell? ⟨pb, 1, none⟩ = some (.int .i64 m.2) := (hb5.cell (p := ⟨pb, 1, none⟩) (by show pb < W4.heap.size; omega)).trans k2; have hk6 : ∀ k, k < W3.heap.size → (W5.alloc (.cells #[.slice (some ⟨W4.heap.size, 0, none⟩) needs.length needs.length, .bool false] 84)).heap[k]? = W3.heap[k]? := (fun k hk => (Below.heap_alloc _ _ _ (by omega)).trans ((hb5.block k (by omega)).trans (hb4.block k hk))); obtain ⟨W7, hup, hmap7, hk7, ho7, ht7, hu7, hz7⟩ := unhide HINS _ ((hk6 mb hml).trans (unhide HM3)) (.pointer (some ⟨W5.heap.size, 0, none⟩)); have r0 := (World.cell?_of_block (a := ⟨a, 0, none⟩) (hk6 a hal)).trans m0; have r1 := (World.cell?_of_block (a := ⟨pb, 0, none⟩) (hk6 pb hpl3)).trans e0; have r2 := (World.cell?_of_block (a := ⟨pb, 1, none⟩) (hk6 pb hpl3)).trans e1; have q0 := (World.cell?_of_block (a := ⟨a, 0, none⟩) (hk7 a hamb)).trans r0; have q1 := (World.cell?_of_block (a := ⟨pb, 0, none⟩) (hk7 pb hpbm)).trans r1; have q2 := (World.cell?_of_block (a := ⟨pb, 1, none⟩) (hk7 pb hpbm)).trans r2; have HK7 := hide hk7; have HK6 := hide hk6; have HR5 := hide hr5; have HM7 := hide hmap7; clear hk7 hk6 hr5 hmap7))
          go_wp2
          go_ret
          have hfin : R = (0, ents ++ [⟨m, srt needs, false⟩]) := by
            rw [← unhide HR, publishE, if_neg hlen, unhide HCK, if_neg (by simp [unhide HCK0]), unhide HPE, if_neg (by simp [unhide HPE0])]
          rw [hfin]
          have hsl : (srt needs).length = needs.length := srtTo_length _ _ (Nat.le_refl _)
          have hz6 : (W5.alloc (.cells #[.slice (some ⟨W4.heap.size, 0, none⟩) needs.length needs.length, .bool false] 84)).heap.size = W5.heap.size + 1 := by simp
          have hkeep : ∀ k, k < W3.heap.size → k ≠ mb → W7.heap[k]? = W3.heap[k]? := fun k hk hn => (unhide HK7 k hn).trans (unhide HK6 k hk)
          have hr7 : Row W7 W4.heap.size 78 (srt needs) needs.length := by
            have hr5 := unhide HR5
            rw [isort_srt] at hr5
            refine (hr5.alloc (.cells #[.slice (some ⟨W4.heap.size, 0, none⟩) needs.length needs.length, .bool false] 84)).of_block (unhide HK7 _ (by omega))
          refine ⟨rfl, ?_, ⟨?_, ?_, ?_, ?_, ?_⟩⟩
          · refine (unhide HP3).push (w' := W7) (fun k hk => by have := hF k hk; omega) ⟨m, srt needs, false⟩ mb W5.heap.size W4.heap.size es (unhide HA3) (unhide HM3) (unhide HM7) hkeep ?_ ?_ (by omega) (fun k hk => Or.inl hk) (Or.inr ⟨by omega, by omega⟩) (Or.inr ⟨by omega, by omega⟩)
            · rw [unhide HK7 _ (by omega), heap_alloc_new]
              simp only [hsl]
            · simp only [hsl]
              exact hr7
          · exact ho7.trans (hb5.os.trans (hb4.os.trans hbw3.os))
          · exact ht7.trans (hb5.tape.trans (hb4.tape.trans hbw3.tape))
          · exact hu7.trans (hb5.output.trans (hb4.output.trans hbw3.output))
          · omega
          · intro k hk hn
            rw [hkeep k (by omega) (by rintro rfl; exact hn hFm)]
            exact hbw3.block k hk
        · have hpeb : (pe != 0) = true := by simp [hpe0]
          go_wp2
          go_ret
          have hfin : R = (pe, ents) := by
            rw [← unhide HR, publishE, if_neg hlen, unhide HCK, if_neg (by simp [unhide HCK0]), unhide HPE, if_pos hpe0]
          rw [hfin]
          exact ⟨rfl, ((unhide H).of_blocks (fun k hk => hbw3.block k (hF k hk))).mono (fun k hk => Or.inl hk), Upd.of_below hbw3⟩
      · have hckb : (ck != 0) = true := by simp [hck0]
        go_wp2
        go_ret
        have hfin : R = (ck, ents) := by
          rw [← unhide HR, publishE, if_neg hlen, unhide HCK, if_pos hck0]
        rw [hfin]
        exact ⟨rfl, hP2.mono (fun k hk => Or.inl hk), Upd.of_below hbw2⟩
end Go.Proofs.YtijpgamdpcgneaaGreat
