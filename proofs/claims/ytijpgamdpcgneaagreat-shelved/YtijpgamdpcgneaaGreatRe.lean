import Derived.Test.YtijpgamdpcgneaaGreatTo
namespace Go.Proofs.YtijpgamdpcgneaaGreat
open Go.RowKit

set_option maxRecDepth 20000 in
set_option maxHeartbeats 1000000 in
theorem returned_nil (y : Nat) (g : Value) (w : World) :
    Calls Tryz.prog 78 #[.pointer (some ⟨y, 0, none⟩), g, .slice none 0 0] w fun r w' => r = .returned (.bool true) ∧ w' = w := by
  have q36 := run_nil36
  go_enter Tryz.func78, Tryz.ntmps78
  go_wp2
  go_ret
  exact ⟨rfl, rfl⟩

theorem eqM_refl (z : Mo) : eqM z z = true := by simp [eqM]

theorem behinds_at (i : Nat) (h : i < 3) : (behinds 3)[i]? = some (behind i) := by
  match i, h with
  | 0, _ => rfl
  | 1, _ => rfl
  | 2, _ => rfl

set_option maxRecDepth 20000 in
set_option maxHeartbeats 4000000 in
theorem returned_calls (hM : ModsSaid) (F : Nat → Prop) (y : Nat) (ps : Value) (k : Nat) (g0 cap : Nat) (b off vc : Nat) (xs : List Mo) (w : World)
    (hk : (k + 1) * 24 ≤ 140737488355328) (hn : (xs.length + 3) * 24 ≤ 140737488355328) (hbk : Bk w F y ps k) (hF : ∀ j, F j → j < w.heap.size) (hFy : ¬ F y)
    (hg : CRow w g0 33 2 (xs.length + 3) (cellsL (xs ++ behinds 3)) cap) (hd : ¬ F g0 ∧ g0 ≠ y) (hl : LstAt w (.slice (some ⟨b, off, none⟩) xs.length vc) xs) :
    Calls Tryz.prog 78 #[.pointer (some ⟨y, 0, none⟩), .slice (some ⟨g0, 0, none⟩) xs.length cap, .slice (some ⟨b, off, none⟩) xs.length vc] w fun r w' => r = .returned (.bool true) ∧ Bk w' (fun j => F j ∨ g0 = j ∨ (w.heap.size ≤ j ∧ j < w'.heap.size)) y ps (k + 1) ∧ Upd (fun j => F j ∨ j = y ∨ g0 = j) w w' := by
  have q36 := run_nil36
  have hyl : y < w.heap.size := by
    obtain ⟨ba, bc, svs, h1, _⟩ := hbk
    exact (Array.getElem?_eq_some_iff.1 h1).1
  have hgl := hg.lt
  have hcap := hg.2.1
  have hgr : Row w g0 33 (xs ++ behinds 3) cap := hg.row
  have hgc : ∀ (i : Nat) (m : Mo), (xs ++ behinds 3)[i]? = some m → w.cell? ⟨g0, i * 2, none⟩ = some (.string m.1) ∧ w.cell? ⟨g0, i * 2 + 1, none⟩ = some (.int .i64 m.2) := by
    intro i m hi
    rcases hgr.lst with ⟨h0, _⟩ | ⟨_, _, _, h0, _, hc⟩
    · cases h0
    · cases h0
      have := hc i m hi
      rwa [Nat.zero_add] at this
  have hlc : ∀ (i : Nat) (m : Mo), xs[i]? = some m → b < w.heap.size ∧ w.cell? ⟨b, off + i * 2, none⟩ = some (.string m.1) ∧ w.cell? ⟨b, off + i * 2 + 1, none⟩ = some (.int .i64 m.2) := by
    intro i m hi
    obtain ⟨b', off', c', h0, hb', hc⟩ := hl.at (by intro e; subst e; simp at hi)
    cases h0
    exact ⟨hb', hc i m hi⟩
  have hsh : Shp w (.slice (some ⟨g0, 0, none⟩) xs.length cap) xs.length := by
    obtain ⟨h1, h2, h3, cur, h4, h5, h6⟩ := hg
    exact Or.inr ⟨g0, cap, cur, rfl, h4, h5, by omega, h3⟩
  have HB := hide hbk
  have HGC := hide hgc
  have HLC := hide hlc
  have HSH := hide hsh
  have HD := hide hd
  have i0 : (xs.length : Int) + 3 ≤ (cap : Int) := by omega
  clear hbk hg hgr hgc hlc hl hsh hd
  go_enter Tryz.func78, Tryz.ntmps78
  go_wp2
  go_loopw [8, 9] (fun o i wr => o = .bool true ∧ ∃ q : Nat, q ≤ xs.length ∧ i = .int .i64 q ∧ Below w.heap.size w wr) (fun _ i _ => xs.length - (intOf i).toNat)
  case atStart => exact ⟨rfl, 0, Nat.zero_le _, rfl, Below.refl _ _⟩
  case round =>
    obtain ⟨rfl, q, hq, rfl, hbw⟩ := hrel
    by_cases hlt : q < xs.length
    · obtain ⟨m, hm⟩ : ∃ m, xs[q]? = some m := ⟨_, List.getElem?_eq_getElem hlt⟩
      obtain ⟨hbl, c0, c1⟩ := unhide HLC q m hm
      obtain ⟨d0, d1⟩ := unhide HGC q m (by rw [List.getElem?_append_left hlt]; exact hm)
      have c0' := (hbw.cell (p := ⟨b, off + q * 2, none⟩) hbl).trans c0
      have c1' := (hbw.cell (p := ⟨b, off + q * 2 + 1, none⟩) hbl).trans c1
      have d0' := (hbw.cell (p := ⟨g0, q * 2, none⟩) hgl).trans d0
      have d1' := (hbw.cell (p := ⟨g0, q * 2 + 1, none⟩) hgl).trans d1
      have he := fun W => run_eql35 m m W
      rw [eqM_refl] at he
      have hgd := fun W => run_guard35 .eql (.tmp 29) (.tmp 33) #[.string m.1, .int .i64 m.2] #[.string m.1, .int .i64 m.2] W
      have i1 : (q : Int) < (xs.length : Int) := by omega
      have i2 : (q : Int) < (xs.length : Int) + 3 := by omega
      clear c0 c1 d0 d1 hm
      go_wp2
      go_quiet (fail)
      go_wp2
      go_roundw
      case rel => exact ⟨rfl, q + 1, by omega, by go_num, below_drewN hbw _⟩
      case measure => simp [intOf]; omega
    · obtain ⟨wo, rfl⟩ : ∃ wo : World, wo = wr := ⟨_, rfl⟩
      go_wp2
      go_loopw [8, 10] (fun o i wr => o = .bool true ∧ ∃ q : Nat, q ≤ 3 ∧ i = .int .i64 q ∧ Below w.heap.size w wr) (fun _ i _ => 3 - (intOf i).toNat)
      case atStart => exact ⟨rfl, 0, Nat.zero_le _, rfl, hbw⟩
      case round =>
        clear hbw
        obtain ⟨rfl, p, hp, rfl, hbw⟩ := hrel
        by_cases hp3 : p < 3
        · have hp3' : (p : Int) < 3 := by omega
          obtain ⟨d0, d1⟩ := unhide HGC (xs.length + p) (behind p) (by rw [List.getElem?_append_right (by omega), Nat.add_sub_cancel_left]; exact behinds_at p hp3)
          have d0' := (hbw.cell (p := ⟨g0, (xs.length + p) * 2, none⟩) hgl).trans d0
          have d1' := (hbw.cell (p := ⟨g0, (xs.length + p) * 2 + 1, none⟩) hgl).trans d1
          have he := fun W => run_eql35 (behind p) (behind p) W
          rw [eqM_refl] at he
          simp only [behind] at he d0' d1'
          have hgd := fun W => run_guard35 .eql (.tmp 48) (.tmp 50) #[.string ⟨#[98, 101, 104, 105, 110, 100]⟩, .int .i64 (p : Int)] #[.string ⟨#[98, 101, 104, 105, 110, 100]⟩, .int .i64 (p : Int)] W
          have i1 : (xs.length : Int) + (p : Int) < (xs.length : Int) + 3 := by omega
          have i2 : ((xs.length : Int) + (p : Int)).toNat = xs.length + p := by omega
          have i3 : (0 : Int) ≤ (xs.length : Int) + (p : Int) := by omega
          clear d0 d1
          go_wp2
          go_roundw
          case rel => exact ⟨rfl, p + 1, by omega, by go_num, hbw⟩
          case measure => simp [intOf]; omega
        · have hs1 := hbw.size
          have cM := hM F y ps k (some ⟨g0, 0, none⟩) xs.length cap wr hk hn ((unhide HB).of_blocks (hbw.block y hyl) (fun j hj => hbw.block j (hF j hj))) (fun j hj => by have := hF j hj; omega) hFy ((unhide HSH).of_block (fun g hg => hbw.block g ((unhide HSH).lt g hg))) (fun g hg => by have e1 : g0 = g := Option.some.inj hg; subst e1; exact unhide HD)
          go_wp2_with fail
          refine cM.mono ?_
          rintro r W2 ⟨rfl, hbk2, hu2⟩
          clear cM
          have hs2 := hu2.size
          have HB2 := hide (hbk2.mono (F' := fun j => F j ∨ g0 = j ∨ (w.heap.size ≤ j ∧ j < W2.heap.size)) (fun j hj => by
            rcases hj with h | h | ⟨h, h'⟩
            · exact Or.inl h
            · exact Or.inr (Or.inl (Option.some.inj h))
            · exact Or.inr (Or.inr ⟨by omega, h'⟩)))
          have HU2 := hide ((Upd.of_below (S := fun j => F j ∨ j = y ∨ g0 = j) ⟨hbw.os, hbw.tape, hbw.output, hbw.size, hbw.block⟩).trans (hu2.mono (S' := fun j => F j ∨ j = y ∨ g0 = j) (fun j _ hj => by
            rcases hj with h | h | h
            · exact Or.inl h
            · exact Or.inr (Or.inl h)
            · exact Or.inr (Or.inr (Option.some.inj h)))))
          clear hbk2 hu2
          go_wp2
          go_ret
          exact ⟨rfl, unhide HB2, unhide HU2⟩
end Go.Proofs.YtijpgamdpcgneaaGreat
