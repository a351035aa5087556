import Derived.Test.YtijpgamdpcgneaaGreatSj
namespace Go.Proofs.YtijpgamdpcgneaaGreat
open Go.RowKit Go.MapKept

theorem publishE_good {ents : List En} {m : Mo} {needs : List Mo} (h : ents.length ≤ 60) (h6 : ∀ e ∈ ents, e.needs.length ≤ 6) : (publishE ents m needs).2.length ≤ 60 ∧ ∀ e ∈ (publishE ents m needs).2, e.needs.length ≤ 6 := by
  unfold publishE
  split
  · exact ⟨h, h6⟩
  · split
    · exact ⟨h, h6⟩
    · split
      · exact ⟨h, h6⟩
      · rename_i h1 h2 h3
        have h60 : ents.length < 60 := by
          simp only [placeErr, ne_eq, Decidable.not_not] at h3
          split at h3
          · cases h3
          · split at h3
            · cases h3
            · omega
        refine ⟨by simp; omega, ?_⟩
        intro e he
        rw [List.mem_append] at he
        rcases he with he | he
        · exact h6 e he
        · simp at he
          subst he
          show (srt needs).length ≤ 6
          rw [show (srt needs).length = needs.length from srtTo_length _ _ (Nat.le_refl _)]
          omega

set_option maxRecDepth 20000 in
set_option maxHeartbeats 4000000 in
theorem shelved_publish_nil (FX FC FB : Nat → Prop) (y x c : Nat) (ps : Value) (k : Nat) (ents : List En) (s : Int) (m : Mo) (hp : m.1.size ≤ 140737488355328) (w : World) (h : St w FX FC FB y x c ps k ents) :
    Calls Tryz.prog 49 #[.pointer (some ⟨y, 0, none⟩), .agg #[.pointer (some ⟨x, 0, none⟩), .pointer (some ⟨c, 0, none⟩)], opv 2 s m (.slice none 0 0)] w fun r w' => r = .returned (.bool true) ∧ Left w FX FC FB y x c ps k w' := by
  unfold opv
  have hp' : ∀ q ∈ m :: ([] : List Mo), q.1.size ≤ 140737488355328 := by intro q hq; simp at hq; subst hq; exact hp
  have hb0 : Below w.heap.size w ((w.alloc (.cells #[.pointer (some ⟨x, 0, none⟩), .pointer (some ⟨c, 0, none⟩)] 98)).alloc (.cells #[.int .i64 2, .int .i64 s, .string m.1, .int .i64 m.2, .slice none 0 0] 63)) := below_two _ _ _
  have h0 := h.below hb0
  have hh0 : Held w _ x c 2 s m (.slice none 0 0) := two_new w (.cells #[.pointer (some ⟨x, 0, none⟩), .pointer (some ⟨c, 0, none⟩)] 98) (.cells #[.int .i64 2, .int .i64 s, .string m.1, .int .i64 m.2, .slice none 0 0] 63)
  have hz0 : ((w.alloc (.cells #[.pointer (some ⟨x, 0, none⟩), .pointer (some ⟨c, 0, none⟩)] 98)).alloc (.cells #[.int .i64 2, .int .i64 s, .string m.1, .int .i64 m.2, .slice none 0 0] 63)).heap.size = w.heap.size + 2 := by simp
  have cL := lent_nil ((w.alloc (.cells #[.pointer (some ⟨x, 0, none⟩), .pointer (some ⟨c, 0, none⟩)] 98)).alloc (.cells #[.int .i64 2, .int .i64 s, .string m.1, .int .i64 m.2, .slice none 0 0] 63))
  have cR := Publish_calls _ FX x ents h0.g60 m (.slice none 0 0) [] hp' (by simp) h0.px h0.lx (Or.inl ⟨rfl, rfl⟩)
  simp only [mv] at cR
  obtain ⟨er, her⟩ : ∃ er, (publishE ents m []).1 = er := ⟨_, rfl⟩
  rw [her] at cR
  have HER := hide her
  have H0 := hide h0
  have HH := hide h
  have HHE := hide hh0
  have HZ := hide hz0
  have HB0 := hide hb0
  clear h h0 her hh0 hz0 hb0
  go_enter Tryz.func49, Tryz.ntmps49
  go_wp2_with fail
  refine cL.mono ?_
  rintro r W0 ⟨rfl, rfl⟩
  clear cL
  go_wp2_with fail
  refine cR.mono ?_
  rintro r W1 ⟨rfl, hp1, hu1⟩
  clear cR
  have hh1 := (unhide HHE).keep hu1 (fun j hj => by have := (unhide HH).lx j hj; omega)
  have hs1 := hu1.size
  rw [unhide HZ] at hs1 hp1
  obtain ⟨a0, a1, a2, a3, a4⟩ := hh1.cells
  have cC := RPublish_calls W1 FC c ents (unhide HH).g60 m (.slice none 0 0) [] hp' (by simp) ((unhide H0).rc.of_blocks (fun j hj => hu1.block j ((unhide H0).lc j hj) (fun e => (unhide HH).dxc j e hj))) (fun j hj => by have := (unhide HH).lc j hj; omega) (Or.inl ⟨rfl, rfl⟩)
  simp only [mv] at cC
  rw [unhide HER] at cC
  have HP1 := hide hp1
  have HU1 := hide hu1
  have HH1 := hide hh1
  clear hp1 hu1 hh1
  go_wp2_with fail
  refine cC.mono ?_
  rintro r W2 ⟨rfl, hr2, hu2⟩
  clear cC a0 a1 a2 a3 a4
  have hh2 := (unhide HH1).keep hu2 (fun j hj => by have := (unhide HH).lc j hj; omega)
  obtain ⟨a0, a1, a2, a3, a4⟩ := hh2.cells
  have hs2 := hu2.size
  have HR2 := hide hr2
  have HU2 := hide hu2
  have cB := returned_nil y (.slice none 0 0) W2
  clear hr2 hu2 hh2
  go_wp2_with fail
  refine cB.mono ?_
  rintro r W3 ⟨rfl, rfl⟩
  clear cB
  go_wp2
  go_ret
  have hh := unhide HH
  have hgood := publishE_good (m := m) (needs := []) hh.g60 hh.g6
  have hu2 := unhide HU2
  have hu1 := unhide HU1
  refine ⟨rfl, _, _, FB, k, (publishE ents m []).2, ⟨(unhide HP1).of_blocks ?_, unhide HR2, ((unhide H0).bk).of_blocks ?_ ?_, ?_, ?_, ?_, ?_, ?_, ?_, ?_, ?_, hh.yb, hgood.1, hgood.2⟩, by omega, ?_, ?_⟩
  · rintro j (hj | ⟨hj, hj'⟩)
    · exact hu2.block j (by have := hh.lx j hj; omega) (fun e => hh.dxc j hj e)
    · exact hu2.block j hj' (fun e => by have := hh.lc j e; omega)
  · exact (hu2.block y (by have := hh.ylt; omega) hh.yc).trans (hu1.block y (unhide H0).ylt hh.yx)
  · intro j hj
    exact (hu2.block j (by have := hh.lb j hj; omega) (fun e => hh.dcb j e hj)).trans (hu1.block j ((unhide H0).lb j hj) (fun e => hh.dxb j e hj))
  · rintro j (hj | ⟨hj, hj'⟩)
    · have := hh.lx j hj; omega
    · omega
  · rintro j (hj | ⟨hj, hj'⟩)
    · have := hh.lc j hj; omega
    · exact hj'
  · intro j hj; have := hh.lb j hj; omega
  · rintro j (hj | ⟨hj, hj'⟩) (e | ⟨e, e'⟩)
    · exact hh.dxc j hj e
    · have := hh.lx j hj; omega
    · have := hh.lc j e; omega
    · omega
  · rintro j (hj | ⟨hj, hj'⟩) e
    · exact hh.dxb j hj e
    · have := hh.lb j e; omega
  · rintro j (hj | ⟨hj, hj'⟩) e
    · exact hh.dcb j hj e
    · have := hh.lb j e; omega
  · have := hh.ylt
    rintro (e | ⟨e, e'⟩)
    · exact hh.yx e
    · omega
  · have := hh.ylt
    rintro (e | ⟨e, e'⟩)
    · exact hh.yc e
    · omega
  · rintro j ((e | ⟨e, e'⟩) | (e | ⟨e, e'⟩) | e)
    · exact Or.inl (Or.inl e)
    · right; omega
    · exact Or.inl (Or.inr (Or.inl e))
    · right; omega
    · exact Or.inl (Or.inr (Or.inr e))
  · exact ((Upd.of_below (unhide HB0)).trans (hu1.mono (fun j _ hj => Or.inl hj))).trans (hu2.mono (fun j _ hj => Or.inr (Or.inl hj)))
end Go.Proofs.YtijpgamdpcgneaaGreat
