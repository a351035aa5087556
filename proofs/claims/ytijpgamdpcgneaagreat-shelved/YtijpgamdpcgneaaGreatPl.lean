import Derived.Test.YtijpgamdpcgneaaGreatSv
namespace Go.Proofs.YtijpgamdpcgneaaGreat
open Go.RowKit Go.MapKept

/-- A step as data: its kind, its shelf, its module, its list. -/
structure Stepd where
  kind : Int
  s : Int
  m : Mo
  xs : List Mo

/-- Step i of a row of steps that begins at block b, place o. -/
def StepAt (w : World) (b o i : Nat) (d : Stepd) (lv : Value) : Prop :=
  w.cell? ⟨b, o + i * 5, none⟩ = some (.int .i64 d.kind) ∧ w.cell? ⟨b, o + i * 5 + 1, none⟩ = some (.int .i64 d.s) ∧ w.cell? ⟨b, o + i * 5 + 2, none⟩ = some (.string d.m.1) ∧ w.cell? ⟨b, o + i * 5 + 3, none⟩ = some (.int .i64 d.m.2) ∧ w.cell? ⟨b, o + i * 5 + 4, none⟩ = some lv

/-- Numbers and lengths of a step that came in. -/
structure Small (d : Stepd) : Prop where
  s1 : -9223372036854775808 ≤ d.s
  s2 : d.s ≤ 9223372036854775807
  ps : ∀ q ∈ d.m :: d.xs, q.1.size ≤ 140737488351232
  ln : d.xs.length * 24 ≤ 140737488351232

theorem Small.ok {d : Stepd} (h : Small d) (hk : d.kind ≤ 5) : Ok d.kind d.s d.m d.xs :=
  ⟨hk, h.s1, h.s2, fun q hq => by have := h.ps q hq; omega, h.ln⟩

/-- A list that came in. -/
def InL (w : World) (lv : Value) (xs : List Mo) : Prop :=
  (lv = .slice none 0 0 ∧ xs = []) ∨ (∃ b off vc, lv = .slice (some ⟨b, off, none⟩) xs.length vc ∧ b < w.heap.size ∧ LstAt w lv xs) ∨ ∃ ad vc, lv = .slice (some ad) 0 vc ∧ xs = []

/-- A script that came in. -/
def Script (w : World) (sv : Value) (ops : List Stepd) : Prop :=
  (sv = .slice none 0 0 ∧ ops = []) ∨ (∃ b o cap, sv = .slice (some ⟨b, o, none⟩) ops.length cap ∧ b < w.heap.size ∧ ∀ (i : Nat) d, ops[i]? = some d → Small d ∧ ∃ lv, StepAt w b o i d lv ∧ InL w lv d.xs) ∨ ∃ ad cap, sv = .slice (some ad) 0 cap ∧ ops = []

theorem Script.at {w : World} {sv : Value} {ops : List Stepd} (h : Script w sv ops) (hne : ops ≠ []) : ∃ b o cap, sv = .slice (some ⟨b, o, none⟩) ops.length cap ∧ b < w.heap.size ∧ ∀ (i : Nat) d, ops[i]? = some d → Small d ∧ ∃ lv, StepAt w b o i d lv ∧ InL w lv d.xs := by
  rcases h with ⟨_, h0⟩ | h | ⟨_, _, _, h0⟩
  · exact absurd h0 hne
  · exact h
  · exact absurd h0 hne

def headD : List Stepd := [⟨1, 0, (⟨#[]⟩, 0), []⟩, ⟨2, 0, (⟨#[98]⟩, 2), []⟩, ⟨2, 0, (⟨#[97]⟩, 1), [(⟨#[98]⟩, 2)]⟩, ⟨5, 0, (⟨#[97]⟩, 1), []⟩, ⟨4, 0, (⟨#[98]⟩, 2), []⟩]

/-- The head, at block h, its one list at block l. -/
def HeadAt (w : World) (h l : Nat) : Prop :=
  w.heap[l]? = some (.cells #[.string ⟨#[98]⟩, .int .i64 2] 33 (0, 0)) ∧
  w.heap[h]? = some (.cells #[.int .i64 1, .int .i64 0, .string ⟨#[]⟩, .int .i64 0, .slice none 0 0, .int .i64 2, .int .i64 0, .string ⟨#[98]⟩, .int .i64 2, .slice none 0 0, .int .i64 2, .int .i64 0, .string ⟨#[97]⟩, .int .i64 1, .slice (some ⟨l, 0, none⟩) 1 1, .int .i64 5, .int .i64 0, .string ⟨#[97]⟩, .int .i64 1, .slice none 0 0, .int .i64 4, .int .i64 0, .string ⟨#[98]⟩, .int .i64 2, .slice none 0 0] 63 (0, 0))

theorem HeadAt.step {w : World} {h l : Nat} (hh : HeadAt w h l) (tag : Nat → Nat) (ht : tag l = 0) (i : Nat) (hi : i < 5) : ∃ (d : Stepd) (lv : Value), Ok d.kind d.s d.m d.xs ∧ OpL w tag lv d.xs ∧
    w.cell? ⟨h, i * 5, none⟩ = some (.int .i64 d.kind) ∧ w.cell? ⟨h, i * 5 + 1, none⟩ = some (.int .i64 d.s) ∧ w.cell? ⟨h, i * 5 + 2, none⟩ = some (.string d.m.1) ∧ w.cell? ⟨h, i * 5 + 3, none⟩ = some (.int .i64 d.m.2) ∧ w.cell? ⟨h, i * 5 + 4, none⟩ = some lv := by
  obtain ⟨h1, h2⟩ := hh
  have hl : l < w.heap.size := (Array.getElem?_eq_some_iff.1 h1).1
  have c := fun j => cell_of_block (w := w) (j := j) h2
  have hok : ∀ (kind : Int) (m : Mo) (xs : List Mo), kind ≤ 5 → (∀ q ∈ m :: xs, q.1.size ≤ 1) → xs.length ≤ 1 → Ok kind 0 m xs := fun kind m xs a b e => ⟨a, by decide, by decide, fun q hq => by have := b q hq; omega, by omega⟩
  have hlst : LstAt w (.slice (some ⟨l, 0, none⟩) 1 1) [(⟨#[98]⟩, 2)] := by
    refine Or.inr ⟨l, 0, 1, rfl, by decide, ?_⟩
    intro i m hi
    match i, hi with
    | 0, hi =>
      simp at hi
      subst hi
      exact ⟨by rw [cell_of_block h1]; rfl, by rw [cell_of_block h1]; rfl⟩
  match i, hi with
  | 0, _ => exact ⟨⟨1, 0, (⟨#[]⟩, 0), []⟩, .slice none 0 0, hok _ _ _ (by decide) (by intro q hq; simp at hq; subst hq; decide) (by decide), Or.inl ⟨rfl, rfl⟩, by rw [c]; rfl, by rw [c]; rfl, by rw [c]; rfl, by rw [c]; rfl, by rw [c]; rfl⟩
  | 1, _ => exact ⟨⟨2, 0, (⟨#[98]⟩, 2), []⟩, .slice none 0 0, hok _ _ _ (by decide) (by intro q hq; simp at hq; subst hq; decide) (by decide), Or.inl ⟨rfl, rfl⟩, by rw [c]; rfl, by rw [c]; rfl, by rw [c]; rfl, by rw [c]; rfl, by rw [c]; rfl⟩
  | 2, _ => exact ⟨⟨2, 0, (⟨#[97]⟩, 1), [(⟨#[98]⟩, 2)]⟩, .slice (some ⟨l, 0, none⟩) 1 1, hok _ _ _ (by decide) (by intro q hq; simp at hq; rcases hq with rfl | rfl <;> decide) (by decide), Or.inr (Or.inl ⟨l, 0, 1, rfl, hl, ht, hlst⟩), by rw [c]; rfl, by rw [c]; rfl, by rw [c]; rfl, by rw [c]; rfl, by rw [c]; rfl⟩
  | 3, _ => exact ⟨⟨5, 0, (⟨#[97]⟩, 1), []⟩, .slice none 0 0, hok _ _ _ (by decide) (by intro q hq; simp at hq; subst hq; decide) (by decide), Or.inl ⟨rfl, rfl⟩, by rw [c]; rfl, by rw [c]; rfl, by rw [c]; rfl, by rw [c]; rfl, by rw [c]; rfl⟩
  | 4, _ => exact ⟨⟨4, 0, (⟨#[98]⟩, 2), []⟩, .slice none 0 0, hok _ _ _ (by decide) (by intro q hq; simp at hq; subst hq; decide) (by decide), Or.inl ⟨rfl, rfl⟩, by rw [c]; rfl, by rw [c]; rfl, by rw [c]; rfl, by rw [c]; rfl, by rw [c]; rfl⟩

/-- A play that has just begun. -/
theorem py_start (w : World) : Py (w.alloc (.cells #[.slice none 0 0, .slice none 0 0] 59)) (fun j => if j = w.heap.size then 1 else 0) w.heap.size w.heap.size (.slice none 0 0) [] 0 where
  tl := fun j hj => by
    have : j = w.heap.size := by
      apply Classical.byContradiction
      intro e
      exact hj (if_neg e)
    subst this
    exact ⟨Nat.le_refl _, by simp⟩
  ty := if_pos rfl
  bk := ⟨none, 0, [], heap_alloc_new w _, rfl, Or.inl ⟨rfl, rfl, rfl⟩, (fun g hg => by cases hg), fun i sv hi => by simp at hi⟩
  own := Or.inl ⟨rfl, rfl, rfl⟩
  pt := fun g hg => by cases hg
  px := fun i s hi => by simp at hi
  rc := fun i s hi => by simp at hi
  g60 := fun s hs => by simp at hs
  g6 := fun s hs => by simp at hs

set_option maxRecDepth 20000 in
set_option maxHeartbeats 4000000 in
theorem plays_calls (hM : ModsSaid) (sa : Option Addr) (sn sc : Nat) (ops : List Stepd) (w : World) (hs : Script w (.slice sa sn sc) ops) (hn : ops.length * 64 ≤ 140737488351232) :
    Calls Tryz.prog 12 #[.slice sa sn sc, .int .i64 5] w fun e w' => e = .returned (.bool true) ∧ Below w.heap.size w w' := by
  have cH := head_calls (w.alloc (.cells #[.slice none 0 0, .slice none 0 0] 59))
  have hz : (w.alloc (.cells #[.slice none 0 0, .slice none 0 0] 59)).heap.size = w.heap.size + 1 := by simp
  rw [hz] at cH
  have hp0 := py_start w
  have HS := hide hs
  have HP := hide hp0
  have HZ := hide hz
  clear hs hp0 hz
  go_enter Tryz.func12, Tryz.ntmps12
  go_wp2_with fail
  refine cH.mono ?_
  rintro e W1 ⟨rfl, hb1, hl1, hh1⟩
  clear cH
  rw [← unhide HZ] at hb1
  have hp1 := (unhide HP).below hb1
  have hbw1 : Below w.heap.size w W1 := (below_one w _).trans (hb1.mono (by rw [unhide HZ]; omega))
  have HI0 : Hid (HeadAt W1 (w.heap.size + 1 + 3) (w.heap.size + 1 + 2)) := ⟨hl1, hh1⟩
  have HP1 := hide hp1
  have HB1 := hide hbw1
  clear hb1 hl1 hh1 hp1 hbw1 HP
  go_wp2
  go_loopw [6, 8] (fun o i wr => o = .bool true ∧ ∃ q : Nat, q ≤ 5 ∧ i = .int .i64 q ∧ Hid (∃ tag pv shs k, Py wr tag w.heap.size w.heap.size pv shs k ∧ k ≤ q ∧ shs.length ≤ q ∧ HeadAt wr (w.heap.size + 1 + 3) (w.heap.size + 1 + 2) ∧ tag (w.heap.size + 1 + 3) = 0 ∧ tag (w.heap.size + 1 + 2) = 0 ∧ Below w.heap.size w wr)) (fun _ i _ => 5 - (intOf i).toNat)
  case atStart =>
    refine ⟨rfl, 0, by omega, rfl, _, _, _, _, unhide HP1, by omega, by simp, unhide HI0, ?_, ?_, unhide HB1⟩
    · exact if_neg (by omega)
    · exact if_neg (by omega)
  case round =>
    obtain ⟨rfl, q, hq, rfl, HI⟩ := hrel
    clear HP1 HI0 HB1
    by_cases hq5 : q < 5
    · have hq5' : (q : Int) < 5 := by omega
      obtain ⟨tag, pv, shs, k, hpy, hk, hsl, hhd, ht1, ht2, hbw⟩ := unhide HI
      obtain ⟨d, lv, hok, hol, o0, o1, o2, o3, o4⟩ := hhd.step tag ht2 q hq5
      have cS := step_calls hM tag w.heap.size w.heap.size pv shs k d.kind d.s d.m lv d.xs hok wr hpy (by omega) (by omega) hol
      unfold opv at cS
      obtain ⟨la, ln, lcp, rfl⟩ : ∃ la ln lcp, lv = .slice la ln lcp := by
        rcases hol with ⟨h0, _⟩ | ⟨b, off, vc, h0, _⟩ | ⟨ad, vc, h0, _⟩ <;> exact ⟨_, _, _, h0⟩
      have HHD := hide hhd
      have HBW := hide hbw
      have HPY := hide hpy
      clear hpy hol hhd HI hbw
      go_wp2_with fail
      refine cS.mono ?_
      rintro r W2 ⟨rfl, hst⟩
      clear cS
      have HST := hide hst
      clear hst
      go_wp2
      go_roundw
      case rel =>
        obtain ⟨tag', pv', shs', k', g1, g2, g3, g4, g5⟩ := unhide HST
        obtain ⟨e1, e2⟩ := unhide HHD
        have hl1 := (Array.getElem?_eq_some_iff.1 e1).1
        have hl2 := (Array.getElem?_eq_some_iff.1 e2).1
        exact ⟨rfl, q + 1, by omega, by go_num, tag', pv', shs', k', g1, by omega, by omega, ⟨(g5 _ hl1 ht2).1.trans e1, (g5 _ hl2 ht1).1.trans e2⟩, (g5 _ hl2 ht1).2, (g5 _ hl1 ht2).2, (unhide HBW).trans g4⟩
      case measure => simp [intOf]; omega
    · obtain ⟨wo, rfl⟩ : ∃ wo : World, wo = wr := ⟨_, rfl⟩
      have hq5' : ¬ (q : Int) < 5 := by omega
      have HI5 := HI
      clear HI
      go_wp2
      go_loopw [6, 9] (fun o i wr => o = .bool true ∧ ∃ p : Nat, p ≤ ops.length ∧ i = .int .i64 p ∧ Hid (∃ tag pv shs k, Py wr tag w.heap.size w.heap.size pv shs k ∧ k ≤ 5 + p ∧ shs.length ≤ 5 + p ∧ Below w.heap.size w wr)) (fun _ i _ => ops.length - (intOf i).toNat)
      case atStart =>
        obtain ⟨tag, pv, shs, k, hpy, hk, hsl, hhd, ht1, ht2, hbw⟩ := unhide HI5
        exact ⟨rfl, 0, by omega, rfl, tag, pv, shs, k, hpy, by omega, by omega, hbw⟩
      case round =>
        clear HI5
        obtain ⟨rfl, p, hq, rfl, HI⟩ := hrel
        by_cases hqn : p < ops.length
        · obtain ⟨d, hd⟩ : ∃ d, ops[p]? = some d := ⟨_, List.getElem?_eq_getElem hqn⟩
          have hne : ops ≠ [] := by
            intro e
            rw [e] at hqn
            simp at hqn
          obtain ⟨b, o, cap, h0, hbl, hall⟩ := (unhide HS).at hne
          cases h0
          clear hne
          obtain ⟨hsm, lv, ⟨p0, p1, p2, p3, p4⟩, hin⟩ := hall p d hd
          obtain ⟨tag, pv, shs, k, hpy, hk, hsl, hbw⟩ := unhide HI
          have o0 := (hbw.cell (p := ⟨b, o + p * 5, none⟩) hbl).trans p0
          have o1 := (hbw.cell (p := ⟨b, o + p * 5 + 1, none⟩) hbl).trans p1
          have o2 := (hbw.cell (p := ⟨b, o + p * 5 + 2, none⟩) hbl).trans p2
          have o3 := (hbw.cell (p := ⟨b, o + p * 5 + 3, none⟩) hbl).trans p3
          have o4 := (hbw.cell (p := ⟨b, o + p * 5 + 4, none⟩) hbl).trans p4
          have i1 : (p : Int) < (ops.length : Int) := by omega
          clear p0 p1 p2 p3 p4 hall hd
          by_cases hkd : 5 < d.kind
          · have HI6 := HI
            clear HI hpy hin hbw hsm
            go_wp2
            go_roundw
            case rel =>
              obtain ⟨tag, pv, shs, k, hpy, hk, hsl, hbw⟩ := unhide HI6
              exact ⟨rfl, p + 1, by omega, by go_num, tag, pv, shs, k, hpy, by omega, by omega, hbw⟩
            case measure => simp [intOf]; omega
          · have hkd' : ¬ d.kind > 5 := by omega
            have hol : OpL wr tag lv d.xs := by
              rcases hin with h0 | ⟨b', off, vc, h0, hb', hat⟩ | h0
              · exact Or.inl h0
              rotate_left
              · exact Or.inr (Or.inr h0)
              · refine Or.inr (Or.inl ⟨b', off, vc, h0, by have := hbw.size; omega, ?_, hat.below hbw (fun b2 off2 l2 c2 e => by rw [h0] at e; cases e; exact hb')⟩)
                apply Classical.byContradiction
                intro e
                have := (hpy.tl b' e).1
                omega
            have cS := step_calls hM tag w.heap.size w.heap.size pv shs k d.kind d.s d.m lv d.xs (hsm.ok (by omega)) wr hpy (by omega) (by omega) hol
            unfold opv at cS
            obtain ⟨la, ln, lcp, rfl⟩ : ∃ la ln lcp, lv = .slice la ln lcp := by
              rcases hol with ⟨h0, _⟩ | ⟨b, off, vc, h0, _⟩ | ⟨ad, vc, h0, _⟩ <;> exact ⟨_, _, _, h0⟩
            have HBW := hide hbw
            clear hpy hol HI hbw hin hsm
            go_wp2_with fail
            refine cS.mono ?_
            rintro r W2 ⟨rfl, hst⟩
            clear cS
            obtain ⟨tag', pv', shs', k', g1, g2, g3, g4, g5⟩ := hst
            have cW := whole_calls _ w.heap.size pv' k' (by omega) W2 g1.bk
            have HG1 := hide g1
            have HG4 := hide g4
            clear g1 g4 g5
            go_wp2_with fail
            refine cW.mono ?_
            rintro r W3 ⟨rfl, hb3⟩
            clear cW
            have HB3 := hide hb3
            clear hb3
            go_wp2
            go_roundw
            case rel =>
              have hz2 := (unhide HG1).ylt
              exact ⟨rfl, p + 1, by omega, by go_num, tag', pv', shs', k', (unhide HG1).below (unhide HB3), by omega, by omega, ((unhide HBW).trans (unhide HG4)).trans ((unhide HB3).mono (by omega))⟩
            case measure => simp [intOf]; omega
        · obtain ⟨la, lc, hla⟩ : ∃ la lc, Value.slice sa sn sc = .slice la ops.length lc := by
            rcases unhide HS with ⟨h0, h00⟩ | ⟨b, o, cap, h0, hbl, hall⟩ | ⟨ad, cap, h0, h00⟩
            · exact ⟨_, _, by rw [h0, h00]; rfl⟩
            · exact ⟨_, _, h0⟩
            · exact ⟨_, _, by rw [h0, h00]; rfl⟩
          cases hla
          have i1 : ¬ (p : Int) < (ops.length : Int) := by omega
          go_wp2
          go_ret
          obtain ⟨tag, pv, shs, k, hpy, hk, hsl, hbw⟩ := unhide HI
          exact ⟨rfl, hbw⟩
end Go.Proofs.YtijpgamdpcgneaaGreat
