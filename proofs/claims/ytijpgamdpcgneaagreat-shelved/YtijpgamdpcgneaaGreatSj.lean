import Derived.Test.YtijpgamdpcgneaaGreatSi
namespace Go.Proofs.YtijpgamdpcgneaaGreat
open Go.RowKit Go.MapKept

set_option maxRecDepth 20000 in
set_option maxHeartbeats 4000000 in
theorem shelved_needs (hM : ModsSaid) (FX FC FB : Nat → Prop) (y x c : Nat) (ps : Value) (k : Nat) (hk : (k + 1) * 24 ≤ 140737488355328) (ents : List En) (s : Int) (m : Mo) (la : Option Addr) (ln lcp : Nat) (w : World) (h : St w FX FC FB y x c ps k ents) :
    Calls Tryz.prog 49 #[.pointer (some ⟨y, 0, none⟩), .agg #[.pointer (some ⟨x, 0, none⟩), .pointer (some ⟨c, 0, none⟩)], opv 5 s m (.slice la ln lcp)] w fun r w' => r = .returned (.bool true) ∧ Left w FX FC FB y x c ps k w' := by
  unfold opv
  have hb0 : Below w.heap.size w ((w.alloc (.cells #[.pointer (some ⟨x, 0, none⟩), .pointer (some ⟨c, 0, none⟩)] 98)).alloc (.cells #[.int .i64 5, .int .i64 s, .string m.1, .int .i64 m.2, .slice la ln lcp] 63)) := below_two _ _ _
  have h0 := h.below hb0
  have hh0 : Held w _ x c 5 s m (.slice la ln lcp) := two_new w (.cells #[.pointer (some ⟨x, 0, none⟩), .pointer (some ⟨c, 0, none⟩)] 98) (.cells #[.int .i64 5, .int .i64 s, .string m.1, .int .i64 m.2, .slice la ln lcp] 63)
  have hz0 : ((w.alloc (.cells #[.pointer (some ⟨x, 0, none⟩), .pointer (some ⟨c, 0, none⟩)] 98)).alloc (.cells #[.int .i64 5, .int .i64 s, .string m.1, .int .i64 m.2, .slice la ln lcp] 63)).heap.size = w.heap.size + 2 := by simp
  have cR := Needs_calls _ FX x ents h0.g6 m h0.px h0.lx
  simp only [mv] at cR
  have hn6 : (needsE ents m).2.length ≤ 6 := by
    unfold needsE
    split
    · simp
    · split
      · simp
      · rename_i e he
        exact h.g6 e (List.mem_of_getElem? he)
  obtain ⟨R, hR⟩ : ∃ R, needsE ents m = R := ⟨_, rfl⟩
  rw [hR] at cR hn6
  have HER := hide hR
  have H0 := hide h0
  have HH := hide h
  have HHE := hide hh0
  have HZ := hide hz0
  have HB0 := hide hb0
  clear h h0 hR hh0 hz0 hb0
  go_enter Tryz.func49, Tryz.ntmps49
  go_wp2_with fail
  refine cR.mono ?_
  rintro r W1 ⟨⟨v, rfl, hv⟩, hb1⟩
  clear cR
  rw [unhide HZ] at hv
  have hh1 := (unhide HHE).keep (Upd.of_below (S := fun _ => False) hb1) (fun j hj => hj.elim)
  have hs1 := hb1.size
  rw [unhide HZ] at hs1
  obtain ⟨a0, a1, a2, a3, a4⟩ := hh1.cells
  have h1 := (unhide H0).below hb1
  have cC := RNeeds_calls W1 FC c ents (unhide HH).g60 m h1.rc h1.lc
  simp only [mv] at cC
  rw [unhide HER] at cC
  obtain ⟨va, vl, vc, hve, hvl, hvs, hvat, hvf⟩ : ∃ va vl vc, v = .slice va vl vc ∧ R.2.length = vl ∧ Shp W1 v vl ∧ LstAt W1 v R.2 ∧ (∀ g, v.ownBlock = some g → w.heap.size + 2 ≤ g) := by
    rcases hv with ⟨rfl, hn⟩ | ⟨g, cap, rfl, hg, hcm, hrow⟩
    · exact ⟨_, _, _, rfl, by simp [hn], Or.inl ⟨rfl, rfl⟩, Or.inl ⟨rfl, hn⟩, fun g hg => by cases hg⟩
    · have hl := hrow.lst
      have hle := hrow.cap_le
      obtain ⟨arr, k1, k2, k3, k4⟩ := hrow
      exact ⟨_, _, _, rfl, rfl, Or.inr ⟨g, cap, arr, rfl, k1, k2, hle, hcm⟩, hl, fun g' hg' => by cases hg'; exact hg⟩
  subst hve
  subst hvl
  have HB1 := hide hb1
  have H1 := hide h1
  have HVS := hide hvs
  have HVA := hide hvat
  have HVF := hide hvf
  clear hb1 hh1 h1 hvs hvat hvf hv
  go_wp2_with fail
  refine cC.mono ?_
  rintro r W2 ⟨⟨u, rfl, hul, hug⟩, hb2⟩
  clear cC
  have hs2 := hb2.size
  have h2 := (unhide H1).below hb2
  have hvs2 : Shp W2 (.slice va R.2.length vc) R.2.length := (unhide HVS).of_block (fun g hg => hb2.block g ((unhide HVS).lt g hg))
  have hva2 : LstAt W2 (.slice va R.2.length vc) R.2 := (unhide HVA).below hb2 (fun b off l cap e => by cases e; exact (unhide HVS).lt b rfl)
  have cT := told_calls hM FB y ps k va _ vc R.2 rfl R.1 u R.2 R.1 W2 hk (by omega) (by omega) h2.bk h2.lb h2.yb hvs2 (fun g hg => by
    have h' := unhide HVF g hg
    exact ⟨fun e => by have := (unhide HH).lb g e; omega, fun e => by have := (unhide HH).ylt; omega⟩) hva2 hul
  rw [eqMs_refl] at cT
  have H2 := hide h2
  have HB2 := hide hb2
  obtain ⟨ua, uc, rfl⟩ := hul.length
  clear hb2 h2 hvs2 hva2 hul hug
  go_wp2_with fail
  refine cT.mono ?_
  rintro r W3 ⟨rfl, hbk3, hu3⟩
  clear cT
  have hs3 := hu3.size
  have HK3 := hide hbk3
  have HU3 := hide hu3
  clear hbk3 hu3
  go_wp2
  go_ret
  have hh := unhide HH
  have hh2 := unhide H2
  have hu3 := unhide HU3
  have hvf := unhide HVF
  refine ⟨retB (by simp), FX, FC, _, k + 1, ents, ⟨?_, ?_, unhide HK3, ?_, ?_, ?_, hh.dxc, ?_, ?_, hh.yx, hh.yc, ?_, hh.g60, hh.g6⟩, by omega, ?_, ?_⟩
  · refine hh2.px.of_blocks (fun j hj => hu3.block j (hh2.lx j hj) ?_)
    rintro (e | e | e)
    · exact hh.dxb j hj e
    · subst e; exact hh.yx hj
    · have := hvf j e; have := hh.lx j hj; omega
  · refine hh2.rc.of_blocks (fun j hj => hu3.block j (hh2.lc j hj) ?_)
    rintro (e | e | e)
    · exact hh.dcb j hj e
    · subst e; exact hh.yc hj
    · have := hvf j e; have := hh.lc j hj; omega
  · intro j hj; have := hh2.lx j hj; omega
  · intro j hj; have := hh2.lc j hj; omega
  · rintro j (e | e | ⟨_, e⟩)
    · have := hh2.lb j e; omega
    · have := (unhide HVS).lt j e; omega
    · exact e
  · rintro j hj (e | e | ⟨e, _⟩)
    · exact hh.dxb j hj e
    · have := hvf j e; have := hh.lx j hj; omega
    · have := hh.lx j hj; omega
  · rintro j hj (e | e | ⟨e, _⟩)
    · exact hh.dcb j hj e
    · have := hvf j e; have := hh.lc j hj; omega
    · have := hh.lc j hj; omega
  · have hy := hh.ylt
    rintro (e | e | ⟨e, _⟩)
    · exact hh.yb e
    · have := hvf y e; omega
    · omega
  · rintro j (e | e | e | e | ⟨e, _⟩)
    · exact Or.inl (Or.inl e)
    · exact Or.inl (Or.inr (Or.inl e))
    · exact Or.inl (Or.inr (Or.inr e))
    · right; have := hvf j e; omega
    · right; omega
  · refine (((Upd.of_below (unhide HB0)).trans (Upd.of_below (unhide HB1))).trans (Upd.of_below (unhide HB2))).trans' hu3 ?_
    rintro j hj (e | e | e)
    · exact Or.inr (Or.inr (Or.inl e))
    · exact Or.inr (Or.inr (Or.inr e))
    · have := hvf j e; omega
end Go.Proofs.YtijpgamdpcgneaaGreat
