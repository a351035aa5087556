import Derived.Test.YtijpgamdpcgneaaGreatSl
namespace Go.Proofs.YtijpgamdpcgneaaGreat
open Go.RowKit Go.MapKept

set_option maxRecDepth 20000 in
set_option maxHeartbeats 2000000 in
theorem lent_src (ad : Addr) (vc : Nat) (xs : List Mo) (hx : xs.length * 24 ≤ 140737488351232) (w : World) (h : ∀ j u, (cellsL xs)[j]? = some u → w.cell? (ad.add j) = some u) :
    Calls Tryz.prog 76 #[.slice (some ad) xs.length vc] w fun e w' => (∃ g cap, e = .returned (.slice (some ⟨g, 0, none⟩) xs.length cap) ∧ w.heap.size ≤ g ∧ CRow w' g 33 2 (xs.length + 3) (cellsL (xs ++ behinds 3)) cap) ∧ Below w.heap.size w w' := by
  have HN := hide h
  have hlc : xs.length ≤ 140737488355328 := by omega
  clear h
  have q36 := run_nil36
  go_enter Tryz.func76, Tryz.ntmps76
  go_wp2_with (first
    | (at_builtin; refine wpList_append_any _ rfl (.tmp 7) (.tmp 8) 29 rfl 33 _ 2 24 Tryz.underlying29 Tryz.info33 rfl (by decide) rfl ad xs.length vc (cellsL xs) rfl (cellsL_length _) (unhide HN) (cellsL_one _) (by unfold maxLen; omega) (by omega) ?_; intro v1 W1 hown1 hb1 hf1))
  go_loopw [3, 4] (fun v i wr => ∃ k : Nat, k ≤ 3 ∧ i = .int .i64 k ∧ Below w.heap.size w wr ∧ Own wr 33 2 v (xs.length + k) (cellsL (xs ++ behinds k)) ∧ (∀ g, v.ownBlock = some g → w.heap.size ≤ g)) (fun _ i _ => 3 - (intOf i).toNat)
  case atStart => exact ⟨0, by omega, rfl, hb1, by simpa [behinds] using hown1, hf1⟩
  case round =>
    obtain ⟨k, hk, rfl, hbw, hown, hfr⟩ := hrel
    by_cases hlt : k < 3
    · have hlt' : (k : Int) < 3 := by omega
      have hbs := hbw.size
      have hown' := hown.of_block (w' := wr.alloc (.cells #[.string ⟨#[98, 101, 104, 105, 110, 100]⟩, .int .i64 (k : Int)] 33)) (fun g hg => Below.heap_alloc _ _ _ (hown.lt g hg))
      clear hown hown1
      go_wp2_with (first
        | (at_builtin; refine wpList_append_gen _ rfl (.tmp 14) (.tmp 17) 29 rfl 33 _ 2 24 Tryz.underlying29 Tryz.info33 rfl (by decide) _ (xs.length + k) (cellsL (xs ++ behinds k)) rfl hown' ⟨wr.heap.size, 0, none⟩ 1 1 (cellsL [behind k]) rfl rfl (by simp [cellsL, behind, go_sem]) (cellsL_one _) (by unfold maxLen; omega) (by omega) (Or.inl (by decide)) ?_; intro g2 cp2 W2 hrow2 hu2 hg2))
      have hsz : (wr.alloc (.cells #[.string ⟨#[98, 101, 104, 105, 110, 100]⟩, .int .i64 (k : Int)] 33)).heap.size = wr.heap.size + 1 := by simp
      go_roundw
      case rel =>
        refine ⟨k + 1, by omega, by go_num, ?_, Or.inr ⟨g2, cp2, by rw [Nat.add_assoc], ?_⟩, ?_⟩
        · refine (hbw.alloc hbs _).trans (hu2.below (by omega) ?_)
          intro q hq e
          have := hfr q e
          omega
        · rw [behinds, ← List.append_assoc, cellsL_append (xs ++ behinds k), ← Nat.add_assoc]
          exact hrow2
        · intro q hq
          have e1 : g2 = q := Option.some.inj hq
          subst e1
          rcases hg2 with h | h
          · exact hfr g2 h
          · omega
      case measure => simp [intOf]; omega
    · obtain rfl : k = 3 := by omega
      rcases hown with ⟨_, hn, _⟩ | ⟨g, cap, rfl, hrow⟩
      · omega
      have hcap := hrow.2.1
      have hc1 : (xs.length : Int) ≤ (cap : Int) := by omega
      have HR := hide hrow
      clear hrow hown1
      go_wp2
      go_ret
      exact ⟨⟨g, cap, rfl, hfr g rfl, unhide HR⟩, hbw⟩

set_option maxRecDepth 20000 in
set_option maxHeartbeats 1000000 in
theorem sorted_empty (ad : Addr) (vc : Nat) (w : World) :
    Calls Tryz.prog 117 #[.slice (some ad) 0 vc] w fun e w' => (∃ u, e = .returned u ∧ Own w' 33 2 u 0 (cellsL (srt [])) ∧ (∀ g, u.ownBlock = some g → w.heap.size ≤ g)) ∧ Below w.heap.size w w' := by
  go_enter Tryz.func117, Tryz.ntmps117
  go_wp2
  go_loopw [3, 4] (fun u i wr => u = .slice none 0 0 ∧ i = .int .i64 0 ∧ wr = w) (fun _ _ _ => 0)
  case atStart => exact ⟨rfl, rfl, rfl⟩
  case round =>
    obtain ⟨rfl, rfl, rfl⟩ := hrel
    go_wp2
    go_ret
    exact ⟨⟨_, rfl, Or.inl ⟨rfl, rfl, rfl⟩, fun g hg => by cases hg⟩, Below.refl _ _⟩

set_option maxRecDepth 20000 in
set_option maxHeartbeats 4000000 in
theorem RPublish_src (w : World) (F : Nat → Prop) (a : Nat) (ents : List En) (hl60 : ents.length ≤ 60) (m : Mo) (ad : Addr) (vc : Nat) (needs : List Mo) (hp : ∀ x ∈ m :: needs, x.1.size ≤ 140737488355328) (hnl : needs.length ≤ 140737488355328)
    (h : RSh w F a ents) (hF : ∀ k, F k → k < w.heap.size) (hnews : ∀ W, Below w.heap.size w W → ∀ j u, (cellsL needs)[j]? = some u → W.cell? (ad.add j) = some u)
    (hsrt : ∀ W, Below w.heap.size w W → Calls Tryz.prog 117 #[.slice (some ad) needs.length vc] W fun e w' => (∃ u, e = .returned u ∧ Own w' 33 2 u needs.length (cellsL (srt needs)) ∧ (∀ g, u.ownBlock = some g → W.heap.size ≤ g)) ∧ Below W.heap.size W w') :
    Calls Tryz.prog 77 #[.pointer (some ⟨a, 0, none⟩), mv m, .slice (some ad) needs.length vc] w fun e w' => e = .returned (.int .i64 (publishE ents m needs).1) ∧ RSh w' (fun k => F k ∨ (w.heap.size ≤ k ∧ k < w'.heap.size)) a (publishE ents m needs).2 ∧ Upd F w w' := by
  unfold mv
  by_cases hlen : 6 < needs.length
  · have HE : Hid (publishE ents m needs = (1, ents)) := by show _ = _; rw [publishE, if_pos hlen]
    obtain ⟨R, hR⟩ : ∃ R, publishE ents m needs = R := ⟨_, rfl⟩
    rw [hR] at HE ⊢
    clear hR
    have HP := hide (h.of_blocks (w' := w.alloc (.cells #[.string m.1, .int .i64 m.2] 33)) (fun k hk => Below.heap_alloc _ _ _ (hF k hk)))
    clear h hnews hsrt
    go_enter Tryz.func77, Tryz.ntmps77
    go_wp2
    go_ret
    rw [unhide HE]
    exact ⟨rfl, (unhide HP).mono (fun k hk => Or.inl hk), Upd.of_below (below_one _ _)⟩
  · have HV := hide hnews
    have HSR := hide hsrt
    have H := hide h
    have HPS := hide hp
    clear hnews hsrt h hp
    obtain ⟨R, hR⟩ : ∃ R, publishE ents m needs = R := ⟨_, rfl⟩
    rw [hR]
    have HR := hide hR
    clear hR
    go_enter Tryz.func77, Tryz.ntmps77
    go_upto_region 4 with fail
    go_cut [7] (fun q wc => ∃ g cp, q = .slice (some ⟨g, 0, none⟩) (needs.length + 1) cp ∧ Row wc g 33 (m :: needs) cp ∧ wc.cell? ⟨w.heap.size, 0, none⟩ = some (.string m.1) ∧ wc.cell? ⟨w.heap.size, 1, none⟩ = some (.int .i64 m.2) ∧ Below w.heap.size w wc ∧ w.heap.size < wc.heap.size)
    case first =>
      have hown : Own ((w.alloc (.cells #[.string m.1, .int .i64 m.2] 33)).alloc (.cells #[.string m.1, .int .i64 m.2] 33)) 33 2 (.slice (some ⟨w.heap.size + 1, 0, none⟩) 1 1) 1 (cellsL [m]) := by
        refine Or.inr ⟨_, _, rfl, rfl, by decide, by decide, #[.string m.1, .int .i64 m.2], ?_, rfl, rfl⟩
        have := heap_alloc_new (w.alloc (.cells #[.string m.1, .int .i64 m.2] 33)) (.cells #[.string m.1, .int .i64 m.2] 33)
        have es : (w.alloc (.cells #[.string m.1, .int .i64 m.2] 33)).heap.size = w.heap.size + 1 := by simp
        rw [es] at this
        exact this
      · have hnews := unhide HV ((w.alloc (.cells #[.string m.1, .int .i64 m.2] 33)).alloc (.cells #[.string m.1, .int .i64 m.2] 33)) (below_two _ _ _)
        have HN := hide hnews
        clear hnews
        go_wp2_with (first
          | (at_builtin; refine wpList_append_gen _ rfl (.tmp 15) (.tmp 16) 29 rfl 33 _ 2 24 Tryz.underlying29 Tryz.info33 rfl (by decide) (.slice (some ⟨w.heap.size + 1, 0, none⟩) 1 1) 1 (cellsL [m]) rfl hown ad needs.length _ (cellsL needs) rfl (cellsL_length _) (unhide HN) (cellsL_one _) (by unfold maxLen; omega) (by omega) (Or.inr (by intro e; cases e)) ?_; intro g cp W1 hrow1 hu1 hg1))
        go_meet
        rw [← cellsL_append] at hrow1
        have hs1 := hu1.size
        have hs2 : w.heap.size + 1 + 1 ≤ W1.heap.size := by simpa using hs1
        have hk0 : W1.heap[w.heap.size]? = some (.cells #[.string m.1, .int .i64 m.2] 33 (0, 0)) := by
          rw [hu1.block w.heap.size (by simp; omega) (by intro e; have e' := Option.some.inj e; simp at e'), Below.heap_alloc _ _ _ (by simp)]
          exact heap_alloc_new w _
        refine ⟨_, _, by rw [Nat.add_comm needs.length 1], hrow1.row, by rw [cell_of_block hk0]; rfl, by rw [cell_of_block hk0]; rfl, (below_two w _ _).trans (hu1.below (by simp; omega) ?_), by omega⟩
        intro k hk e
        have e' : w.heap.size + 1 = k := Option.some.inj e
        omega
    case rest =>
      obtain ⟨g, cp, rfl, hrow, p0, p1, hbw, hws⟩ := hcut
      have hlst := hrow.lst
      have cM := modules_calls (.slice (some ⟨g, 0, none⟩) (needs.length + 1) cp) (m :: needs) (by simp; omega) (unhide HPS) (by simp) wc hlst
      obtain ⟨ck, hck⟩ : ∃ ck, chk (m :: needs) = ck := ⟨_, rfl⟩
      rw [hck] at cM
      have hckr := chk_range (m :: needs)
      rw [hck] at hckr
      have HCK := hide hck
      clear hck hrow hlst
      go_wp2_with fail
      refine cM.mono ?_
      rintro e W2 ⟨rfl, hb2⟩
      clear cM
      have hbw2 : Below w.heap.size w W2 := hbw.trans (hb2.mono (by omega))
      have hs2 := hb2.size
      have hP2 : RSh W2 F a ents := (unhide H).of_blocks (fun k hk => hbw2.block k (hF k hk))
      have cP := place_calls W2 F a ents hl60 m hP2 (fun k hk => by have := hF k hk; omega)
      simp only [mv] at cP
      have q0 := (hb2.cell (p := ⟨w.heap.size, 0, none⟩) hws).trans p0
      have q1 := (hb2.cell (p := ⟨w.heap.size, 1, none⟩) hws).trans p1
      clear hP2
      obtain ⟨pl, hpl⟩ : ∃ pl, plcE ents m = pl := ⟨_, rfl⟩
      rw [hpl] at cP
      have HPL := hide hpl
      clear hpl
      go_wp2_with fail
      refine cP.mono ?_
      rintro e W3 ⟨rfl, hb3⟩
      clear cP
      have hbw3 : Below w.heap.size w W3 := hbw2.trans (hb3.mono (by omega))
      have hs3 := hb3.size
      have hP3 : RSh W3 F a ents := (unhide H).of_blocks (fun k hk => hbw3.block k (hF k hk))
      have HP3 := hide hP3
      clear hP3
      by_cases hck0 : ck = 0
      · have hckb : (ck != 0) = false := by simp [hck0]
        have HCK0 := hide hck0
        clear hck0 hckr
        cases hi : idxE ents m with
        | some i =>
          have hpl0 : (0 : Int) ≤ pl := by rw [← unhide HPL, plcE, hi]; simp
          have HI := hide hi
          clear hi
          go_wp2
          go_ret
          have hfin : R = (5, ents) := by
            have hpe : placeErr ents m = 5 := by simp [placeErr, unhide HI]
            rw [← unhide HR, publishE, if_neg hlen, unhide HCK, if_neg (by simp [unhide HCK0]), hpe, if_pos (by decide)]
          rw [hfin]
          exact ⟨rfl, (unhide HP3).mono (fun k hk => Or.inl hk), Upd.of_below hbw3⟩
        | none =>
          have hpl0 : ¬ (0 : Int) ≤ pl := by rw [← unhide HPL, plcE, hi]; simp
          have HI := hide hi
          clear hi
          obtain ⟨vA, us, h1, h2, h3, h4, h5, h6⟩ := unhide HP3
          have hal : a < w.heap.size := hF a h2
          have c0 : W3.cell? ⟨a, 0, none⟩ = some vA := by rw [cell_of_block h1]; rfl
          obtain ⟨vAa, vAc, hvA⟩ : ∃ x y, vA = .slice x ents.length y := by
            rcases h4 with ⟨h0, h00, _⟩ | ⟨g', cap', h0, _⟩
            · exact ⟨_, _, by rw [h0, h00]⟩
            · exact ⟨_, _, h0⟩
          by_cases h60 : 60 ≤ ents.length
          · subst hvA
            have h60' : (60 : Int) ≤ (ents.length : Int) := by omega
            clear h1 h4 h5 h6
            go_wp2
            go_ret
            have hfin : R = (6, ents) := by
              have hpe : placeErr ents m = 6 := by simp [placeErr, unhide HI, h60]
              rw [← unhide HR, publishE, if_neg hlen, unhide HCK, if_neg (by simp [unhide HCK0]), hpe, if_pos (by decide)]
            rw [hfin]
            exact ⟨rfl, (unhide HP3).mono (fun k hk => Or.inl hk), Upd.of_below hbw3⟩
          · have hfin : Hid (R = (0, ents ++ [⟨m, srt needs, false⟩])) := by
              have hpe : placeErr ents m = 0 := by simp [placeErr, unhide HI, h60]
              show R = _
              rw [← unhide HR, publishE, if_neg hlen, unhide HCK, if_neg (by simp [unhide HCK0]), hpe, if_neg (by decide)]
            have h60' : ¬ (60 : Int) ≤ (ents.length : Int) := by omega
            have H1 := hide h1
            have H4 := hide h4
            have H5 := hide h5
            have H6 := hide h6
            have cS : ∀ W, Below w.heap.size w W → Calls Tryz.prog 117 #[.slice (some ad) needs.length vc] W fun e w' => (∃ ua ul uc, e = .returned (.slice ua ul uc) ∧ Own w' 33 2 (.slice ua ul uc) needs.length (cellsL (srt needs)) ∧ (∀ g, (Value.slice ua ul uc).ownBlock = some g → W.heap.size ≤ g)) ∧ Below W.heap.size W w' := by
              intro W hW
              refine (unhide HSR W hW).mono ?_
              rintro e w' ⟨⟨u, rfl, ho, hf⟩, hb⟩
              refine ⟨?_, hb⟩
              rcases ho with ⟨rfl, h01⟩ | ⟨gg, cc, rfl, h01⟩
              · exact ⟨_, _, _, rfl, Or.inl ⟨rfl, h01⟩, hf⟩
              · exact ⟨_, _, _, rfl, Or.inr ⟨gg, cc, rfl, h01⟩, hf⟩
            have r0 := (hb3.cell (p := ⟨w.heap.size, 0, none⟩) (by show w.heap.size < W2.heap.size; omega)).trans q0
            have r1 := (hb3.cell (p := ⟨w.heap.size, 1, none⟩) (by show w.heap.size < W2.heap.size; omega)).trans q1
            subst hvA
            have hane : (Value.slice vAa ents.length vAc).ownBlock ≠ some a := by
              intro e0
              rcases unhide H4 with ⟨h0, _⟩ | ⟨g', cap', h0, _, _, _, cur, q4, _⟩
              · rw [h0] at e0; cases e0
              · rw [h0] at e0
                have e1 : g' = a := Option.some.inj e0
                rw [e1, h1] at q4
                cases q4
            have hal3 : a < W3.heap.size := by omega
            have hwl3 : w.heap.size < W3.heap.size := by omega
            have hOA : ∀ W, Below W3.heap.size W3 W → Own W 184 4 (.slice vAa ents.length vAc) ents.length (cellsE ents us) := fun W hW => (unhide H4).of_block (fun g hg => hW.block g (by have := hF g (unhide H5 g hg); omega))
            have HOA := hide hOA
            have cW := cS W3.drew hbw3.drew
            have fA : ∀ W : World, W.heap[a]? = W3.heap[a]? → W.frozen? ⟨a, 0, none⟩ = false := fun W hW => by rw [World.frozen?_of_block (w := W3) hW]; simp [World.frozen?, h1]
            have HFA := hide fA
            clear h1 h4 h5 h6 p0 p1 q0 q1 hOA cS fA
            go_wp2_with fail
            go_region_law (first
              | (refine step_append_gen _ rfl (.tmp 41) (.tmp 46) 144 rfl 184 _ 4 56 Tryz.underlying144 Tryz.info184 rfl (by decide) (.slice vAa ents.length vAc) ents.length (cellsE ents us) rfl (unhide HOA _ (by first | exact hb4' | exact hb4'.alloc hs4 _)) ⟨W4.heap.size, 0, none⟩ 1 1 [.string m.1, .int .i64 m.2, .slice ua ul uc, .bool false] rfl rfl (by simp [go_sem]) (by intro x hx; simp at hx; rcases hx with rfl | rfl | rfl | rfl <;> rfl) (by unfold maxLen; omega) (by omega) (Or.inl (by decide)) ?_; intro g2 cp2 W5 hrow5 hu5 hg5; have hk5 := hu5.block a (by simp; omega) hane; have cA5 : W5.cell? ⟨a, 0, none⟩ = some (.slice vAa ents.length vAc) := ((World.cell?_of_block hk5).trans (cA6 _)); have fA5 : W5.frozen? ⟨a, 0, none⟩ = false := unhide HFA W5 (hk5.trans ((Below.heap_alloc _ _ _ (by omega)).trans (hb4'.block a hal3))))
              | (refine step_call1 W3.drew rfl 117 (.tmp 43) #[29] rfl (.slice (some ad) needs.length vc) rfl _ cW run_call42 ?_; rintro e W4 ⟨⟨ua, ul, uc, rfl, hownu, hfru⟩, hb4⟩; have hb4' : Below W3.heap.size W3 W4 := ⟨hb4.os, hb4.tape, hb4.output, hb4.size, hb4.block⟩; have hs4 : W3.heap.size ≤ W4.heap.size := hb4.size; have cA4 : W4.cell? ⟨a, 0, none⟩ = some (.slice vAa ents.length vAc) := (hb4'.cell (p := ⟨a, 0, none⟩) hal3).trans c0; have cA6 : ∀ o, (W4.alloc o).cell? ⟨a, 0, none⟩ = some (.slice vAa ents.length vAc) := (fun o => (World.cell?_of_block (Below.heap_alloc _ _ _ (by show a < W4.heap.size; omega))).trans cA4); have m04 : W4.cell? ⟨w.heap.size, 0, none⟩ = some (.string m.1) := (hb4'.cell (p := ⟨w.heap.size, 0, none⟩) hwl3).trans r0; have m14 : W4.cell? ⟨w.heap.size, 1, none⟩ = some (.int .i64 m.2) := (hb4'.cell (p := ⟨w.heap.size, 1, none⟩) hwl3).trans r1; refine ⟨_, rfl, ?_⟩))
            all_goals
              go_wp2
              go_ret
              rw [unhide hfin]
              have hfru' : ∀ g, (Value.slice ua ul uc).ownBlock = some g → W3.heap.size ≤ g := hfru
              exact ⟨rfl, RSh_push hF hbw3 hb4' (unhide H1) h2 h3 (unhide H4) (unhide H5) (unhide H6) hownu hfru' hrow5 hu5 hg5 hane rfl rfl rfl rfl⟩
      · have hckb : (ck != 0) = true := by simp [hck0]
        go_wp2
        go_ret
        have hfin : R = (ck, ents) := by
          rw [← unhide HR, publishE, if_neg hlen, unhide HCK, if_pos hck0]
        rw [hfin]
        exact ⟨rfl, (unhide HP3).mono (fun k hk => Or.inl hk), Upd.of_below hbw3⟩
end Go.Proofs.YtijpgamdpcgneaaGreat
