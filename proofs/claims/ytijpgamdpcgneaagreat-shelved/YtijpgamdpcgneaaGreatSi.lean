import Derived.Test.YtijpgamdpcgneaaGreatSh
namespace Go.Proofs.YtijpgamdpcgneaaGreat
open Go.RowKit Go.MapKept

/-- Behind it writes to a block count only where it was there at the start. -/
theorem Upd.trans' {S S' : Nat → Prop} {a b c : World} (h : Upd S a b) (k : Upd S' b c) (hs : ∀ j, j < a.heap.size → S' j → S j) : Upd S a c :=
  ⟨k.os.trans h.os, k.tape.trans h.tape, k.output.trans h.output, Nat.le_trans h.size k.size, fun i hi hn => (k.block i (Nat.lt_of_lt_of_le hi h.size) (fun e => hn (hs i hi e))).trans (h.block i hi hn)⟩

theorem eqMs_refl (xs : List Mo) : eqMs xs xs = true := by
  induction xs with
  | nil => rfl
  | cons a l ih => simp [eqMs, eqM_refl, ih]

set_option maxRecDepth 20000 in
set_option maxHeartbeats 4000000 in
theorem shelved_latest (FX FC FB : Nat → Prop) (y x c : Nat) (ps : Value) (k : Nat) (ents : List En) (s : Int) (m : Mo) (la : Option Addr) (ln lcp : Nat) (w : World) (h : St w FX FC FB y x c ps k ents) :
    Calls Tryz.prog 49 #[.pointer (some ⟨y, 0, none⟩), .agg #[.pointer (some ⟨x, 0, none⟩), .pointer (some ⟨c, 0, none⟩)], opv 4 s m (.slice la ln lcp)] w fun r w' => r = .returned (.bool true) ∧ Left w FX FC FB y x c ps k w' := by
  unfold opv
  have hb0 : Below w.heap.size w ((w.alloc (.cells #[.pointer (some ⟨x, 0, none⟩), .pointer (some ⟨c, 0, none⟩)] 98)).alloc (.cells #[.int .i64 4, .int .i64 s, .string m.1, .int .i64 m.2, .slice la ln lcp] 63)) := below_two _ _ _
  have h0 := h.below hb0
  have hh0 : Held w _ x c 4 s m (.slice la ln lcp) := two_new w (.cells #[.pointer (some ⟨x, 0, none⟩), .pointer (some ⟨c, 0, none⟩)] 98) (.cells #[.int .i64 4, .int .i64 s, .string m.1, .int .i64 m.2, .slice la ln lcp] 63)
  have hz0 : ((w.alloc (.cells #[.pointer (some ⟨x, 0, none⟩), .pointer (some ⟨c, 0, none⟩)] 98)).alloc (.cells #[.int .i64 4, .int .i64 s, .string m.1, .int .i64 m.2, .slice la ln lcp] 63)).heap.size = w.heap.size + 2 := by simp
  have cR := Latest_calls _ FX x ents m.1 h0.px h0.lx
  obtain ⟨R, hR⟩ : ∃ R, latestR ents m.1 = R := ⟨_, rfl⟩
  rw [hR] at cR
  have HER := hide hR
  have H0 := hide h0
  have HH := hide h
  have HHE := hide hh0
  have HZ := hide hz0
  have HB0 := hide hb0
  clear h h0 hR hh0 hz0 hb0
  go_enter Tryz.func49, Tryz.ntmps49
  go_wp2_with fail
  refine cR.mono ?_
  rintro r W1 ⟨rfl, hb1⟩
  clear cR
  have hh1 := (unhide HHE).keep (Upd.of_below (S := fun _ => False) hb1) (fun j hj => hj.elim)
  have hs1 := hb1.size
  obtain ⟨a0, a1, a2, a3, a4⟩ := hh1.cells
  have h1 := (unhide H0).below hb1
  have cC := RLatest_calls W1 FC c ents (unhide HH).g60 m.1 h1.rc h1.lc
  rw [unhide HER] at cC
  have HB1 := hide hb1
  have H1 := hide h1
  clear hb1 hh1 h1
  go_wp2_with fail
  refine cC.mono ?_
  rintro r W2 ⟨rfl, hb2⟩
  clear cC
  have HB2 := hide hb2
  clear hb2
  go_wp2
  go_ret
  refine ⟨rfl, FX, FC, FB, k, ents, (unhide H1).below (unhide HB2), by omega, fun j hj => Or.inl hj, ?_⟩
  exact ((Upd.of_below (unhide HB0)).trans (Upd.of_below (unhide HB1))).trans (Upd.of_below (unhide HB2))

end Go.Proofs.YtijpgamdpcgneaaGreat
