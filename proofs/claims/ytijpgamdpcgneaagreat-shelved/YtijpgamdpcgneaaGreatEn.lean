import Derived.Test.YtijpgamdpcgneaaGreatEm
namespace Go.Proofs.YtijpgamdpcgneaaGreat
open Go.RowKit Go.MapKept

set_option maxRecDepth 20000 in
set_option maxHeartbeats 4000000 in
theorem returned_empty (hM : ModsSaid) (F : Nat → Prop) (y : Nat) (ps : Value) (k : Nat) (g0 cap : Nat) (ad : Addr) (vc : Nat) (w : World)
    (hk : (k + 1) * 24 ≤ 140737488355328) (hbk : Bk w F y ps k) (hF : ∀ j, F j → j < w.heap.size) (hFy : ¬ F y)
    (hg : CRow w g0 33 2 3 (cellsL (behinds 3)) cap) (hd : ¬ F g0 ∧ g0 ≠ y) :
    Calls Tryz.prog 78 #[.pointer (some ⟨y, 0, none⟩), .slice (some ⟨g0, 0, none⟩) 0 cap, .slice (some ad) 0 vc] w fun r w' => r = .returned (.bool true) ∧ Bk w' (fun j => F j ∨ g0 = j ∨ (w.heap.size ≤ j ∧ j < w'.heap.size)) y ps (k + 1) ∧ Upd (fun j => F j ∨ j = y ∨ g0 = j) w w' := by
  have q36 := run_nil36
  have hyl : y < w.heap.size := by
    obtain ⟨ba, bc, svs, h1, _⟩ := hbk
    exact (Array.getElem?_eq_some_iff.1 h1).1
  have hgl := hg.lt
  have hcap := hg.2.1
  have hgr : Row w g0 33 (behinds 3) cap := hg.row
  have hgc : ∀ (i : Nat) (m : Mo), (behinds 3)[i]? = some m → w.cell? ⟨g0, i * 2, none⟩ = some (.string m.1) ∧ w.cell? ⟨g0, i * 2 + 1, none⟩ = some (.int .i64 m.2) := by
    intro i m hi
    rcases hgr.lst with ⟨h0, _⟩ | ⟨_, _, _, h0, _, hc⟩
    · cases h0
    · cases h0
      have := hc i m hi
      rwa [Nat.zero_add] at this
  have hsh : Shp w (.slice (some ⟨g0, 0, none⟩) 0 cap) 0 := by
    obtain ⟨h1, h2, h3, cur, h4, h5, h6⟩ := hg
    exact Or.inr ⟨g0, cap, cur, rfl, h4, h5, by omega, h3⟩
  have HB := hide hbk
  have HGC := hide hgc
  have HSH := hide hsh
  have HD := hide hd
  have i0 : (3 : Int) ≤ (cap : Int) := by omega
  clear hbk hg hgr hgc hsh hd
  go_enter Tryz.func78, Tryz.ntmps78
  go_wp2
  go_loopw [8, 9] (fun o i wr => o = .bool true ∧ i = .int .i64 0 ∧ Below w.heap.size w wr) (fun _ _ _ => 0)
  case atStart => exact ⟨rfl, rfl, Below.refl _ _⟩
  case round =>
    obtain ⟨rfl, rfl, hbw⟩ := hrel
    · obtain ⟨wo, rfl⟩ : ∃ wo : World, wo = wr := ⟨_, rfl⟩
      go_wp2
      go_loopw [8, 10] (fun o i wr => o = .bool true ∧ ∃ q : Nat, q ≤ 3 ∧ i = .int .i64 q ∧ Below w.heap.size w wr) (fun _ i _ => 3 - (intOf i).toNat)
      case atStart => exact ⟨rfl, 0, Nat.zero_le _, rfl, hbw⟩
      case round =>
        clear hbw
        obtain ⟨rfl, p, hp, rfl, hbw⟩ := hrel
        by_cases hp3 : p < 3
        · have hp3' : (p : Int) < 3 := by omega
          obtain ⟨d0, d1⟩ := unhide HGC p (behind p) (behinds_at p hp3)
          have d0' := (hbw.cell (p := ⟨g0, p * 2, none⟩) hgl).trans d0
          have d1' := (hbw.cell (p := ⟨g0, p * 2 + 1, none⟩) hgl).trans d1
          have he := fun W => run_eql35 (behind p) (behind p) W
          rw [eqM_refl] at he
          simp only [behind] at he d0' d1'
          have hgd := fun W => run_guard35 .eql (.tmp 48) (.tmp 50) #[.string ⟨#[98, 101, 104, 105, 110, 100]⟩, .int .i64 (p : Int)] #[.string ⟨#[98, 101, 104, 105, 110, 100]⟩, .int .i64 (p : Int)] W
          have i1 : (p : Int) < 3 := by omega
          clear d0 d1
          go_wp2
          go_roundw
          case rel => exact ⟨rfl, p + 1, by omega, by go_num, hbw⟩
          case measure => simp [intOf]; omega
        · have hs1 := hbw.size
          have cM := hM F y ps k (some ⟨g0, 0, none⟩) 0 cap wr hk (by decide) ((unhide HB).of_blocks (hbw.block y hyl) (fun j hj => hbw.block j (hF j hj))) (fun j hj => by have := hF j hj; omega) hFy ((unhide HSH).of_block (fun g hg => hbw.block g ((unhide HSH).lt g hg))) (fun g hg => by have e1 : g0 = g := Option.some.inj hg; subst e1; exact unhide HD)
          go_wp2_with fail
          refine cM.mono ?_
          rintro r W2 ⟨rfl, hbk2, hu2⟩
          clear cM
          have hs2 := hu2.size
          have HB2 := hide (hbk2.mono (F' := fun j => F j ∨ g0 = j ∨ (w.heap.size ≤ j ∧ j < W2.heap.size)) (fun j hj => by
            rcases hj with h | h | ⟨h, h'⟩
            · exact Or.inl h
            · exact Or.inr (Or.inl (Option.some.inj h))
            · exact Or.inr (Or.inr ⟨by omega, h'⟩)))
          have HU2 := hide ((Upd.of_below (S := fun j => F j ∨ j = y ∨ g0 = j) ⟨hbw.os, hbw.tape, hbw.output, hbw.size, hbw.block⟩).trans (hu2.mono (S' := fun j => F j ∨ j = y ∨ g0 = j) (fun j _ hj => by
            rcases hj with h | h | h
            · exact Or.inl h
            · exact Or.inr (Or.inl h)
            · exact Or.inr (Or.inr (Option.some.inj h)))))
          clear hbk2 hu2
          go_wp2
          go_ret
          exact ⟨rfl, unhide HB2, unhide HU2⟩

set_option maxRecDepth 20000 in
set_option maxHeartbeats 4000000 in
theorem shelved_publish_empty (hM : ModsSaid) (FX FC FB : Nat → Prop) (y x c : Nat) (ps : Value) (k : Nat) (hk : (k + 1) * 24 ≤ 140737488355328) (ents : List En) (s : Int) (m : Mo) (ad : Addr) (vc : Nat) (hp : m.1.size ≤ 140737488355328) (w : World) (h : St w FX FC FB y x c ps k ents) :
    Calls Tryz.prog 49 #[.pointer (some ⟨y, 0, none⟩), .agg #[.pointer (some ⟨x, 0, none⟩), .pointer (some ⟨c, 0, none⟩)], opv 2 s m (.slice (some ad) 0 vc)] w fun r w' => r = .returned (.bool true) ∧ Left w FX FC FB y x c ps k w' := by
  unfold opv
  have hb0 : Below w.heap.size w ((w.alloc (.cells #[.pointer (some ⟨x, 0, none⟩), .pointer (some ⟨c, 0, none⟩)] 98)).alloc (.cells #[.int .i64 2, .int .i64 s, .string m.1, .int .i64 m.2, .slice (some ad) 0 vc] 63)) := below_two _ _ _
  have h0 := h.below hb0
  have hh0 : Held w _ x c 2 s m (.slice (some ad) 0 vc) := two_new w (.cells #[.pointer (some ⟨x, 0, none⟩), .pointer (some ⟨c, 0, none⟩)] 98) (.cells #[.int .i64 2, .int .i64 s, .string m.1, .int .i64 m.2, .slice (some ad) 0 vc] 63)
  have hz0 : ((w.alloc (.cells #[.pointer (some ⟨x, 0, none⟩), .pointer (some ⟨c, 0, none⟩)] 98)).alloc (.cells #[.int .i64 2, .int .i64 s, .string m.1, .int .i64 m.2, .slice (some ad) 0 vc] 63)).heap.size = w.heap.size + 2 := by simp
  have cL := lent_src ad vc [] (by decide) ((w.alloc (.cells #[.pointer (some ⟨x, 0, none⟩), .pointer (some ⟨c, 0, none⟩)] 98)).alloc (.cells #[.int .i64 2, .int .i64 s, .string m.1, .int .i64 m.2, .slice (some ad) 0 vc] 63)) (fun j u hj => by simp [cellsL] at hj)
  simp only [List.length_nil, List.nil_append, Nat.zero_add] at cL
  have H0 := hide h0
  have HH := hide h
  have HHE := hide hh0
  have HZ := hide hz0
  have HB0 := hide hb0
  clear h h0 hh0 hz0 hb0
  go_enter Tryz.func49, Tryz.ntmps49
  go_wp2_with fail
  refine cL.mono ?_
  rintro r W0 ⟨⟨g, cap, rfl, hg, hrow⟩, hbw0⟩
  clear cL
  rw [unhide HZ] at hg
  have hs0 := hbw0.size
  rw [unhide HZ] at hs0
  have hgl := hrow.lt
  have hh1 := (unhide HHE).keep (Upd.of_below (S := fun _ => False) hbw0) (fun j hj => hj.elim)
  obtain ⟨a0, a1, a2, a3, a4⟩ := hh1.cells
  have h1 := (unhide H0).below hbw0
  have hrow' : CRow W0 g 33 2 (([] : List Mo).length + (behinds 3).length) (cellsL ([] ++ behinds 3)) cap := hrow
  have cR := Publish_calls W0 FX x ents h1.g60 m (.slice (some ⟨g, 0, none⟩) 0 cap) [] (by simpa using hp) (by decide) h1.px h1.lx hrow'.lstPre
  simp only [mv] at cR
  obtain ⟨er, her⟩ : ∃ er, (publishE ents m []).1 = er := ⟨_, rfl⟩
  rw [her] at cR
  have HER := hide her
  have H1 := hide h1
  have HH1 := hide hh1
  have HRW := hide hrow
  have HBW := hide hbw0
  clear hh1 h1 hrow hrow' hbw0 her
  go_wp2_with fail
  refine cR.mono ?_
  rintro r W1 ⟨rfl, hp1, hu1⟩
  clear cR a0 a1 a2 a3 a4
  have hh2 := (unhide HH1).keep hu1 (fun j hj => by have := (unhide HH).lx j hj; omega)
  have hs1 := hu1.size
  obtain ⟨a0, a1, a2, a3, a4⟩ := hh2.cells
  have cC := RPublish_src W1 FC c ents (unhide HH).g60 m ad vc [] (by simpa using hp) (by decide) ((unhide H1).rc.of_blocks (fun j hj => hu1.block j ((unhide H1).lc j hj) (fun e => (unhide HH).dxc j e hj))) (fun j hj => by have := (unhide HH).lc j hj; omega) (fun W _ j u hj => by simp [cellsL] at hj) (fun W _ => sorted_empty ad vc W)
  simp only [mv, List.length_nil] at cC
  rw [unhide HER] at cC
  have HP1 := hide hp1
  have HU1 := hide hu1
  have HH2 := hide hh2
  clear hp1 hu1 hh2
  go_wp2_with fail
  refine cC.mono ?_
  rintro r W2 ⟨rfl, hr2, hu2⟩
  clear cC a0 a1 a2 a3 a4
  have hh3 := (unhide HH2).keep hu2 (fun j hj => by have := (unhide HH).lc j hj; omega)
  obtain ⟨a0, a1, a2, a3, a4⟩ := hh3.cells
  have hs2 := hu2.size
  have hg2 : W2.heap[g]? = W0.heap[g]? := (hu2.block g (by omega) (fun e => by have := (unhide HH).lc g e; omega)).trans ((unhide HU1).block g hgl (fun e => by have := (unhide HH).lx g e; omega))
  have hbook2 : Bk W2 FB y ps k := ((unhide H1).bk).of_blocks ((hu2.block y (by have := (unhide HH).ylt; omega) (unhide HH).yc).trans ((unhide HU1).block y (unhide H1).ylt (unhide HH).yx)) (fun j hj => (hu2.block j (by have := (unhide HH).lb j hj; omega) (fun e => (unhide HH).dcb j e hj)).trans ((unhide HU1).block j ((unhide H1).lb j hj) (fun e => (unhide HH).dxb j e hj)))
  have cB := returned_empty hM FB y ps k g cap ad vc W2 hk hbook2 (fun j hj => by have := (unhide HH).lb j hj; omega) (unhide HH).yb ((unhide HRW).of_block hg2) ⟨fun e => by have := (unhide HH).lb g e; omega, fun e => by have := (unhide HH).ylt; omega⟩
  have HR2 := hide hr2
  have HU2 := hide hu2
  clear hr2 hu2 hh3 hbook2
  go_wp2_with fail
  refine cB.mono ?_
  rintro r W3 ⟨rfl, hbk3, hu3⟩
  clear cB
  have hs3 := hu3.size
  have HK3 := hide hbk3
  have HU3 := hide hu3
  clear hbk3 hu3
  go_wp2
  go_ret
  have hh := unhide HH
  have hgood := publishE_good (m := m) (needs := []) hh.g60 hh.g6
  have hu3 := unhide HU3
  have hu2 := unhide HU2
  have hu1 := unhide HU1
  have hylt := hh.ylt
  refine ⟨rfl, _, _, _, k + 1, (publishE ents m []).2, ⟨(unhide HP1).of_blocks ?_, (unhide HR2).of_blocks ?_, unhide HK3, ?_, ?_, ?_, ?_, ?_, ?_, ?_, ?_, ?_, hgood.1, hgood.2⟩, by omega, ?_, ?_⟩
  · rintro j (hj | ⟨hj, hj'⟩)
    · have hjl := hh.lx j hj
      refine (hu3.block j (by omega) ?_).trans (hu2.block j (by omega) (fun e => hh.dxc j hj e))
      rintro (e | e | e)
      · exact hh.dxb j hj e
      · subst e; exact hh.yx hj
      · omega
    · refine (hu3.block j (by omega) ?_).trans (hu2.block j hj' (fun e => by have := hh.lc j e; omega))
      rintro (e | e | e)
      · have := hh.lb j e; omega
      · omega
      · omega
  · rintro j (hj | ⟨hj, hj'⟩)
    · have hjl := hh.lc j hj
      refine hu3.block j (by omega) ?_
      rintro (e | e | e)
      · exact hh.dcb j hj e
      · subst e; exact hh.yc hj
      · omega
    · refine hu3.block j hj' ?_
      rintro (e | e | e)
      · have := hh.lb j e; omega
      · omega
      · omega
  · rintro j (hj | ⟨hj, hj'⟩)
    · have := hh.lx j hj; omega
    · omega
  · rintro j (hj | ⟨hj, hj'⟩)
    · have := hh.lc j hj; omega
    · omega
  · rintro j (e | e | ⟨_, e⟩)
    · have := hh.lb j e; omega
    · omega
    · exact e
  · rintro j (hj | ⟨hj, hj'⟩) (e | ⟨e, e'⟩)
    · exact hh.dxc j hj e
    · have := hh.lx j hj; omega
    · have := hh.lc j e; omega
    · omega
  · rintro j (hj | ⟨hj, hj'⟩) (e | e | ⟨e, e'⟩)
    · exact hh.dxb j hj e
    · have := hh.lx j hj; omega
    · have := hh.lx j hj; omega
    · have := hh.lb j e; omega
    · omega
    · omega
  · rintro j (hj | ⟨hj, hj'⟩) (e | e | ⟨e, e'⟩)
    · exact hh.dcb j hj e
    · have := hh.lc j hj; omega
    · have := hh.lc j hj; omega
    · have := hh.lb j e; omega
    · omega
    · omega
  · rintro (e | ⟨e, e'⟩)
    · exact hh.yx e
    · omega
  · rintro (e | ⟨e, e'⟩)
    · exact hh.yc e
    · omega
  · rintro (e | e | ⟨e, e'⟩)
    · exact hh.yb e
    · omega
    · omega
  · rintro j ((e | ⟨e, e'⟩) | (e | ⟨e, e'⟩) | e | e | ⟨e, e'⟩)
    · exact Or.inl (Or.inl e)
    · right; omega
    · exact Or.inl (Or.inr (Or.inl e))
    · right; omega
    · exact Or.inl (Or.inr (Or.inr e))
    · right; omega
    · right; omega
  · refine ((((Upd.of_below (unhide HB0)).trans (Upd.of_below (unhide HBW))).trans (hu1.mono (fun j _ hj => Or.inl hj))).trans (hu2.mono (fun j _ hj => Or.inr (Or.inl hj)))).trans' hu3 ?_
    rintro j hj (e | e | e)
    · exact Or.inr (Or.inr (Or.inl e))
    · exact Or.inr (Or.inr (Or.inr e))
    · omega
end Go.Proofs.YtijpgamdpcgneaaGreat
