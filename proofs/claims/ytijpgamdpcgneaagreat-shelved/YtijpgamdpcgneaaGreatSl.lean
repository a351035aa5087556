import Derived.Test.YtijpgamdpcgneaaGreatSk
namespace Go.Proofs.YtijpgamdpcgneaaGreat
open Go.RowKit Go.MapKept

theorem CRow.lstPre {w : World} {g cap : Nat} {xs ys : List Mo} (h : CRow w g 33 2 (xs.length + ys.length) (cellsL (xs ++ ys)) cap) : LstAt w (.slice (some ⟨g, 0, none⟩) xs.length cap) xs := by
  have hr : Row w g 33 (xs ++ ys) cap := h.row
  have hc := hr.cap_le
  rw [List.length_append] at hc
  rcases hr.lst with ⟨h0, _⟩ | ⟨_, _, _, h0, _, hcc⟩
  · cases h0
  · cases h0
    refine Or.inr ⟨g, 0, cap, rfl, by omega, fun i m hi => hcc i m ?_⟩
    rw [List.getElem?_append_left (List.getElem?_eq_some_iff.1 hi).1]
    exact hi

set_option maxRecDepth 20000 in
set_option maxHeartbeats 4000000 in
theorem shelved_publish (hM : ModsSaid) (FX FC FB : Nat → Prop) (y x c : Nat) (ps : Value) (k : Nat) (hk : (k + 1) * 24 ≤ 140737488355328) (ents : List En) (s : Int) (m : Mo) (b off vc : Nat) (xs : List Mo) (hp : ∀ q ∈ m :: xs, q.1.size ≤ 140737488355328) (hx : xs.length * 24 ≤ 140737488351232) (w : World) (h : St w FX FC FB y x c ps k ents)
    (hl : LstAt w (.slice (some ⟨b, off, none⟩) xs.length vc) xs) (hbl : b < w.heap.size) (hbn : ¬ FX b ∧ ¬ FC b ∧ ¬ FB b ∧ b ≠ y) :
    Calls Tryz.prog 49 #[.pointer (some ⟨y, 0, none⟩), .agg #[.pointer (some ⟨x, 0, none⟩), .pointer (some ⟨c, 0, none⟩)], opv 2 s m (.slice (some ⟨b, off, none⟩) xs.length vc)] w fun r w' => r = .returned (.bool true) ∧ Left w FX FC FB y x c ps k w' := by
  unfold opv
  have hkeep : ∀ W : World, W.heap[b]? = w.heap[b]? → LstAt W (.slice (some ⟨b, off, none⟩) xs.length vc) xs := by
    intro W hW
    rcases hl with ⟨h0, _⟩ | ⟨b', off', cap', h0, h1, h2⟩
    · cases h0
    · cases h0
      exact Or.inr ⟨b, off, vc, rfl, h1, fun i mm hi => ⟨(World.cell?_of_block hW).trans (h2 i mm hi).1, (World.cell?_of_block hW).trans (h2 i mm hi).2⟩⟩
  have hb0 : Below w.heap.size w ((w.alloc (.cells #[.pointer (some ⟨x, 0, none⟩), .pointer (some ⟨c, 0, none⟩)] 98)).alloc (.cells #[.int .i64 2, .int .i64 s, .string m.1, .int .i64 m.2, .slice (some ⟨b, off, none⟩) xs.length vc] 63)) := below_two _ _ _
  have h0 := h.below hb0
  have hh0 : Held w _ x c 2 s m (.slice (some ⟨b, off, none⟩) xs.length vc) := two_new w (.cells #[.pointer (some ⟨x, 0, none⟩), .pointer (some ⟨c, 0, none⟩)] 98) (.cells #[.int .i64 2, .int .i64 s, .string m.1, .int .i64 m.2, .slice (some ⟨b, off, none⟩) xs.length vc] 63)
  have hz0 : ((w.alloc (.cells #[.pointer (some ⟨x, 0, none⟩), .pointer (some ⟨c, 0, none⟩)] 98)).alloc (.cells #[.int .i64 2, .int .i64 s, .string m.1, .int .i64 m.2, .slice (some ⟨b, off, none⟩) xs.length vc] 63)).heap.size = w.heap.size + 2 := by simp
  have cL := lent_calls b off vc xs (by omega) _ (hkeep _ (hb0.block b hbl))
  have H0 := hide h0
  have HH := hide h
  have HHE := hide hh0
  have HZ := hide hz0
  have HB0 := hide hb0
  have HK := hide hkeep
  have HP := hide hp
  have HBN := hide hbn
  clear h h0 hh0 hz0 hb0 hkeep hp hbn hl
  go_enter Tryz.func49, Tryz.ntmps49
  go_wp2_with fail
  refine cL.mono ?_
  rintro r W0 ⟨⟨g, cap, rfl, hg, hrow⟩, hbw0⟩
  clear cL
  rw [unhide HZ] at hg
  have hs0 := hbw0.size
  rw [unhide HZ] at hs0
  have hgl := hrow.lt
  have hh1 := (unhide HHE).keep (Upd.of_below (S := fun _ => False) hbw0) (fun j hj => hj.elim)
  obtain ⟨a0, a1, a2, a3, a4⟩ := hh1.cells
  have h1 := (unhide H0).below hbw0
  have hrow' : CRow W0 g 33 2 (xs.length + (behinds 3).length) (cellsL (xs ++ behinds 3)) cap := hrow
  have cR := Publish_calls W0 FX x ents h1.g60 m (.slice (some ⟨g, 0, none⟩) xs.length cap) xs (unhide HP) (by omega) h1.px h1.lx hrow'.lstPre
  simp only [mv] at cR
  obtain ⟨er, her⟩ : ∃ er, (publishE ents m xs).1 = er := ⟨_, rfl⟩
  rw [her] at cR
  have HER := hide her
  have H1 := hide h1
  have HH1 := hide hh1
  have HRW := hide hrow
  have HBW := hide hbw0
  clear hh1 h1 hrow hrow' hbw0 her
  go_wp2_with fail
  refine cR.mono ?_
  rintro r W1 ⟨rfl, hp1, hu1⟩
  clear cR a0 a1 a2 a3 a4
  have hh2 := (unhide HH1).keep hu1 (fun j hj => by have := (unhide HH).lx j hj; omega)
  have hs1 := hu1.size
  obtain ⟨a0, a1, a2, a3, a4⟩ := hh2.cells
  have hbk1 : W1.heap[b]? = w.heap[b]? := (hu1.block b (by omega) (unhide HBN).1).trans (((unhide HBW).block b (by rw [unhide HZ]; omega)).trans ((unhide HB0).block b hbl))
  have cC := RPublish_calls W1 FC c ents (unhide HH).g60 m (.slice (some ⟨b, off, none⟩) xs.length vc) xs (unhide HP) (by omega) ((unhide H1).rc.of_blocks (fun j hj => hu1.block j ((unhide H1).lc j hj) (fun e => (unhide HH).dxc j e hj))) (fun j hj => by have := (unhide HH).lc j hj; omega) (unhide HK W1 hbk1)
  simp only [mv] at cC
  rw [unhide HER] at cC
  have HP1 := hide hp1
  have HU1 := hide hu1
  have HH2 := hide hh2
  clear hp1 hu1 hh2
  go_wp2_with fail
  refine cC.mono ?_
  rintro r W2 ⟨rfl, hr2, hu2⟩
  clear cC a0 a1 a2 a3 a4
  have hh3 := (unhide HH2).keep hu2 (fun j hj => by have := (unhide HH).lc j hj; omega)
  obtain ⟨a0, a1, a2, a3, a4⟩ := hh3.cells
  have hs2 := hu2.size
  have hbk2 : W2.heap[b]? = w.heap[b]? := (hu2.block b (by omega) (unhide HBN).2.1).trans hbk1
  have hg2 : W2.heap[g]? = W0.heap[g]? := (hu2.block g (by omega) (fun e => by have := (unhide HH).lc g e; omega)).trans ((unhide HU1).block g hgl (fun e => by have := (unhide HH).lx g e; omega))
  have hbook2 : Bk W2 FB y ps k := ((unhide H1).bk).of_blocks ((hu2.block y (by have := (unhide HH).ylt; omega) (unhide HH).yc).trans ((unhide HU1).block y (unhide H1).ylt (unhide HH).yx)) (fun j hj => (hu2.block j (by have := (unhide HH).lb j hj; omega) (fun e => (unhide HH).dcb j e hj)).trans ((unhide HU1).block j ((unhide H1).lb j hj) (fun e => (unhide HH).dxb j e hj)))
  have cB := returned_calls hM FB y ps k g cap b off vc xs W2 hk (by omega) hbook2 (fun j hj => by have := (unhide HH).lb j hj; omega) (unhide HH).yb ((unhide HRW).of_block hg2) ⟨fun e => by have := (unhide HH).lb g e; omega, fun e => by have := (unhide HH).ylt; omega⟩ (unhide HK W2 hbk2)
  have HR2 := hide hr2
  have HU2 := hide hu2
  clear hr2 hu2 hh3 hbook2
  go_wp2_with fail
  refine cB.mono ?_
  rintro r W3 ⟨rfl, hbk3, hu3⟩
  clear cB
  have hs3 := hu3.size
  have HK3 := hide hbk3
  have HU3 := hide hu3
  clear hbk3 hu3
  go_wp2
  go_ret
  have hh := unhide HH
  have hgood := publishE_good (m := m) (needs := xs) hh.g60 hh.g6
  have hu3 := unhide HU3
  have hu2 := unhide HU2
  have hu1 := unhide HU1
  have hylt := hh.ylt
  refine ⟨rfl, _, _, _, k + 1, (publishE ents m xs).2, ⟨(unhide HP1).of_blocks ?_, (unhide HR2).of_blocks ?_, unhide HK3, ?_, ?_, ?_, ?_, ?_, ?_, ?_, ?_, ?_, hgood.1, hgood.2⟩, by omega, ?_, ?_⟩
  · rintro j (hj | ⟨hj, hj'⟩)
    · have hjl := hh.lx j hj
      refine (hu3.block j (by omega) ?_).trans (hu2.block j (by omega) (fun e => hh.dxc j hj e))
      rintro (e | e | e)
      · exact hh.dxb j hj e
      · subst e; exact hh.yx hj
      · omega
    · refine (hu3.block j (by omega) ?_).trans (hu2.block j hj' (fun e => by have := hh.lc j e; omega))
      rintro (e | e | e)
      · have := hh.lb j e; omega
      · omega
      · omega
  · rintro j (hj | ⟨hj, hj'⟩)
    · have hjl := hh.lc j hj
      refine hu3.block j (by omega) ?_
      rintro (e | e | e)
      · exact hh.dcb j hj e
      · subst e; exact hh.yc hj
      · omega
    · refine hu3.block j hj' ?_
      rintro (e | e | e)
      · have := hh.lb j e; omega
      · omega
      · omega
  · rintro j (hj | ⟨hj, hj'⟩)
    · have := hh.lx j hj; omega
    · omega
  · rintro j (hj | ⟨hj, hj'⟩)
    · have := hh.lc j hj; omega
    · omega
  · rintro j (e | e | ⟨_, e⟩)
    · have := hh.lb j e; omega
    · omega
    · exact e
  · rintro j (hj | ⟨hj, hj'⟩) (e | ⟨e, e'⟩)
    · exact hh.dxc j hj e
    · have := hh.lx j hj; omega
    · have := hh.lc j e; omega
    · omega
  · rintro j (hj | ⟨hj, hj'⟩) (e | e | ⟨e, e'⟩)
    · exact hh.dxb j hj e
    · have := hh.lx j hj; omega
    · have := hh.lx j hj; omega
    · have := hh.lb j e; omega
    · omega
    · omega
  · rintro j (hj | ⟨hj, hj'⟩) (e | e | ⟨e, e'⟩)
    · exact hh.dcb j hj e
    · have := hh.lc j hj; omega
    · have := hh.lc j hj; omega
    · have := hh.lb j e; omega
    · omega
    · omega
  · rintro (e | ⟨e, e'⟩)
    · exact hh.yx e
    · omega
  · rintro (e | ⟨e, e'⟩)
    · exact hh.yc e
    · omega
  · rintro (e | e | ⟨e, e'⟩)
    · exact hh.yb e
    · omega
    · omega
  · rintro j ((e | ⟨e, e'⟩) | (e | ⟨e, e'⟩) | e | e | ⟨e, e'⟩)
    · exact Or.inl (Or.inl e)
    · right; omega
    · exact Or.inl (Or.inr (Or.inl e))
    · right; omega
    · exact Or.inl (Or.inr (Or.inr e))
    · right; omega
    · right; omega
  · refine ((((Upd.of_below (unhide HB0)).trans (Upd.of_below (unhide HBW))).trans (hu1.mono (fun j _ hj => Or.inl hj))).trans (hu2.mono (fun j _ hj => Or.inr (Or.inl hj)))).trans' hu3 ?_
    rintro j hj (e | e | e)
    · exact Or.inr (Or.inr (Or.inl e))
    · exact Or.inr (Or.inr (Or.inr e))
    · omega
end Go.Proofs.YtijpgamdpcgneaaGreat
