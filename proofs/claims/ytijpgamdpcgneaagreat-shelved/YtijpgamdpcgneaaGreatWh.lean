import Derived.Test.YtijpgamdpcgneaaGreatMa
namespace Go.Proofs.YtijpgamdpcgneaaGreat
open Go.RowKit

/-- The mark of list i. -/
def mk' (i : Nat) : Mo := (⟨#[77, 105, 110, 101, 33]⟩, -7070 - (i : Int))

/-- A slice all of whose modules are z, in a block of F. -/
def Marked (w : World) (F : Nat → Prop) (z : Mo) (v : Value) : Prop :=
  ∃ n, (n ≤ 140737488355328) ∧ ((v = .slice none 0 0 ∧ n = 0) ∨ ∃ g cap, v = .slice (some ⟨g, 0, none⟩) n cap ∧ Row w g 33 (List.replicate n z) cap ∧ F g)

/-- Four slices of one list. -/
def Sheet (w : World) (F : Nat → Prop) (z : Mo) (sv : Value) : Prop :=
  ∃ s l0 l1 l2 l3, sv = .slice (some ⟨s, 0, none⟩) 4 4 ∧ w.heap[s]? = some (.cells #[l0, l1, l2, l3] 29 (0, 0)) ∧ F s ∧ Marked w F z l0 ∧ Marked w F z l1 ∧ Marked w F z l2 ∧ Marked w F z l3

theorem Marked.of_blocks {w w' : World} {F : Nat → Prop} {z : Mo} {v : Value} (h : Marked w F z v) (hb : ∀ k, F k → w'.heap[k]? = w.heap[k]?) : Marked w' F z v := by
  obtain ⟨n, hn, h⟩ := h
  refine ⟨n, hn, ?_⟩
  rcases h with h | ⟨g, cap, he, hr, hF⟩
  · exact Or.inl h
  · exact Or.inr ⟨g, cap, he, hr.of_block (hb g hF), hF⟩
theorem Marked.mono {w : World} {F F' : Nat → Prop} {z : Mo} {v : Value} (h : Marked w F z v) (hf : ∀ k, F k → F' k) : Marked w F' z v := by
  obtain ⟨n, hn, h⟩ := h
  refine ⟨n, hn, ?_⟩
  rcases h with h | ⟨g, cap, he, hr, hF⟩
  · exact Or.inl h
  · exact Or.inr ⟨g, cap, he, hr, hf g hF⟩
theorem Sheet.of_blocks {w w' : World} {F : Nat → Prop} {z : Mo} {v : Value} (h : Sheet w F z v) (hb : ∀ k, F k → w'.heap[k]? = w.heap[k]?) : Sheet w' F z v := by
  obtain ⟨s, l0, l1, l2, l3, h1, h2, h3, m0, m1, m2, m3⟩ := h
  exact ⟨s, l0, l1, l2, l3, h1, (hb s h3).trans h2, h3, m0.of_blocks hb, m1.of_blocks hb, m2.of_blocks hb, m3.of_blocks hb⟩
theorem Sheet.mono {w : World} {F F' : Nat → Prop} {z : Mo} {v : Value} (h : Sheet w F z v) (hf : ∀ k, F k → F' k) : Sheet w F' z v := by
  obtain ⟨s, l0, l1, l2, l3, h1, h2, h3, m0, m1, m2, m3⟩ := h
  exact ⟨s, l0, l1, l2, l3, h1, h2, hf s h3, m0.mono hf, m1.mono hf, m2.mono hf, m3.mono hf⟩

/-- The play's struct at block y, and its book of k lists, all but y in blocks of F. -/
def Bk (w : World) (F : Nat → Prop) (y : Nat) (ps : Value) (k : Nat) : Prop :=
  ∃ (ba : Option Addr) (bc : Nat) (svs : List Value), w.heap[y]? = some (.cells #[ps, .slice ba k bc] 59 (0, 0)) ∧ svs.length = k ∧ Own w 102 1 (.slice ba k bc) k svs ∧ (∀ g, (Value.slice ba k bc).ownBlock = some g → F g) ∧ ∀ (i : Nat) sv, svs[i]? = some sv → Sheet w F (mk' i) sv

theorem Bk.of_blocks {w w' : World} {F : Nat → Prop} {y : Nat} {ps : Value} {k : Nat} (h : Bk w F y ps k) (hy : w'.heap[y]? = w.heap[y]?) (hb : ∀ j, F j → w'.heap[j]? = w.heap[j]?) : Bk w' F y ps k := by
  obtain ⟨ba, bc, svs, h1, h2, h3, h4, h5⟩ := h
  exact ⟨ba, bc, svs, hy.trans h1, h2, h3.of_block (fun g hg => hb g (h4 g hg)), h4, fun i sv hi => (h5 i sv hi).of_blocks hb⟩
theorem Bk.mono {w : World} {F F' : Nat → Prop} {y : Nat} {ps : Value} {k : Nat} (h : Bk w F y ps k) (hf : ∀ k, F k → F' k) : Bk w F' y ps k := by
  obtain ⟨ba, bc, svs, h1, h2, h3, h4, h5⟩ := h
  exact ⟨ba, bc, svs, h1, h2, h3, fun g hg => hf g (h4 g hg), fun i sv hi => (h5 i sv hi).mono hf⟩

set_option maxRecDepth 20000 in
set_option maxHeartbeats 4000000 in
theorem whole_calls (F : Nat → Prop) (y : Nat) (ps : Value) (nb : Nat) (hnb : nb ≤ 140737488355328) (w : World) (hbk : Bk w F y ps nb) :
    Calls Tryz.prog 31 #[.pointer (some ⟨y, 1, none⟩)] w fun e w' => e = .returned (.bool true) ∧ Below w.heap.size w w' := by
  obtain ⟨ba, bc, svs, hy, hl, hown, _, hsh⟩ := hbk
  have c1 : w.cell? ⟨y, 1, none⟩ = some (.slice ba nb bc) := by rw [cell_of_block hy]; rfl
  have hyl : y < w.heap.size := (Array.getElem?_eq_some_iff.1 hy).1
  have HS := hide hsh
  have HO := hide hown
  clear hsh hown hy
  go_enter Tryz.func31, Tryz.ntmps31
  go_wp2
  go_loopw [3] (fun i wr => ∃ k : Nat, k ≤ nb ∧ i = .int .i64 k ∧ Below w.heap.size w wr) (fun i _ => nb - (intOf i).toNat)
  case atStart => exact ⟨0, Nat.zero_le _, rfl, Below.refl _ _⟩
  case round =>
    obtain ⟨k, hk, rfl, hbw⟩ := hrel
    have cY := (hbw.cell (p := ⟨y, 1, none⟩) hyl).trans c1
    by_cases hlt : k < nb
    · rcases unhide HO with ⟨_, hn0, _⟩ | ⟨bg, bcap, hbe, hbrow⟩
      · omega
      cases hbe
      have hbgl := hbrow.lt
      obtain ⟨sv, hsv⟩ : ∃ sv, svs[k]? = some sv := ⟨_, List.getElem?_eq_getElem (by omega)⟩
      obtain ⟨s, l0, l1, l2, l3, rfl, hsb, _, m0, m1, m2, m3⟩ := unhide HS k sv hsv
      have hsl : s < w.heap.size := (Array.getElem?_eq_some_iff.1 hsb).1
      have b0 := hbrow.cell hsv
      have cM := mark_calls (k : Int) (by omega) (by omega) wr
      change Calls Tryz.prog 51 #[.int .i64 (k : Int)] wr (fun e w' => e = .returned (.agg #[.string (mk' k).1, .int .i64 (mk' k).2]) ∧ Below wr.heap.size wr w') at cM
      obtain ⟨z, hz⟩ : ∃ z, mk' k = z := ⟨_, rfl⟩
      rw [hz] at cM m0 m1 m2 m3
      have HZ := hide hz
      have HM := hide (show ∀ (j : Nat) l, #[l0, l1, l2, l3][j]? = some l → Marked w F z l from by
        intro j l hj
        match j, hj with
        | 0, hj => simp at hj; subst hj; exact m0
        | 1, hj => simp at hj; subst hj; exact m1
        | 2, hj => simp at hj; subst hj; exact m2
        | 3, hj => simp at hj; subst hj; exact m3
        | j + 4, hj => simp at hj)
      have HSB := hide hsb
      have HB0 := hide b0
      clear hz m0 m1 m2 m3 hsb b0 hsv hbrow
      go_wp2_with fail
      refine cM.mono ?_
      rintro e W1 ⟨rfl, hb1⟩
      clear cM
      have hbw1 : Below w.heap.size w W1 := hbw.trans (hb1.mono hbw.size)
      have hs1 := hbw1.size
      clear hbw cY hb1
      go_wp2
      go_loopw [5] (fun i wr => ∃ j : Nat, j ≤ 4 ∧ i = .int .i64 j ∧ Below w.heap.size w wr ∧ wr.cell? ⟨W1.heap.size, 0, none⟩ = some (.string z.1) ∧ wr.cell? ⟨W1.heap.size, 1, none⟩ = some (.int .i64 z.2)) (fun i _ => 4 - (intOf i).toNat)
      case atStart => exact ⟨0, Nat.zero_le _, rfl, hbw1.alloc hs1 _, by simp [go_sem], by simp [go_sem]⟩
      case round =>
        obtain ⟨j, hj, rfl, hbw, z0, z1⟩ := hrel
        have cY := (hbw.cell (p := ⟨y, 1, none⟩) hyl).trans c1
        have cB := (hbw.cell (p := ⟨bg, k, none⟩) hbgl).trans (unhide HB0)
        have i1 : (k : Int) < (nb : Int) := by omega
        by_cases hj4 : j < 4
        · have hj4' : (j : Int) < 4 := by omega
          obtain ⟨l, hl'⟩ : ∃ l, #[l0, l1, l2, l3][j]? = some l := ⟨_, Array.getElem?_eq_getElem (by simpa using hj4)⟩
          have cL := (hbw.cell (p := ⟨s, j, none⟩) hsl).trans ((cell_of_block (unhide HSB)).trans hl')
          obtain ⟨n, hn47, hmk⟩ := unhide HM j l hl'
          obtain ⟨wo, rfl⟩ : ∃ wo : World, wo = wr := ⟨_, rfl⟩
          have HLJ := hide hl'
          clear hl'
          rcases hmk with ⟨rfl, rfl⟩ | ⟨g, cp, rfl, hrow, _⟩
          · go_wp2
            go_loop [6] (fun i => i = .int .i64 0) (fun _ => 0)
            case atStart => rfl
            case round =>
              subst hrel
              go_wp2
              go_roundw
              case rel => exact ⟨j + 1, by omega, by go_num, hbw, z0, z1⟩
              case measure => simp [intOf]; omega
          · have hgl := hrow.lt
            have HR := hide hrow
            clear hrow
            go_wp2
            go_loopw [6] (fun i wr => ∃ q : Nat, q ≤ n ∧ i = .int .i64 q ∧ Below w.heap.size w wr ∧ wr.cell? ⟨W1.heap.size, 0, none⟩ = some (.string z.1) ∧ wr.cell? ⟨W1.heap.size, 1, none⟩ = some (.int .i64 z.2)) (fun i _ => n - (intOf i).toNat)
            case atStart => exact ⟨0, Nat.zero_le _, rfl, hbw, z0, z1⟩
            case round =>
              clear hbw z0 z1 cY cB cL
              obtain ⟨q, hq, rfl, hbw, z0, z1⟩ := hrel
              have cY := (hbw.cell (p := ⟨y, 1, none⟩) hyl).trans c1
              have cB := (hbw.cell (p := ⟨bg, k, none⟩) hbgl).trans (unhide HB0)
              have cL := (hbw.cell (p := ⟨s, j, none⟩) hsl).trans ((cell_of_block (unhide HSB)).trans (unhide HLJ))
              by_cases hqn : q < n
              · have hqz : (List.replicate n z)[q]? = some z := by rw [List.getElem?_replicate, if_pos hqn]
                rcases (unhide HR).lst with ⟨h0, _⟩ | ⟨_, _, _, h0, _, hc⟩
                · cases h0
                cases h0
                have d0 := (hbw.cell (p := ⟨g, 0 + q * 2, none⟩) hgl).trans (hc q z hqz).1
                have d1 := (hbw.cell (p := ⟨g, 0 + q * 2 + 1, none⟩) hgl).trans (hc q z hqz).2
                rw [Nat.zero_add] at d0 d1
                clear hc hqz
                have he := fun W => run_neq35 z z W
                rw [show eqM z z = true by simp [eqM]] at he
                have hg := fun W => run_guard35 .neq (.tmp 57) (.tmp 58) #[.string z.1, .int .i64 z.2] #[.string z.1, .int .i64 z.2] W
                have i2 : (q : Int) < (n : Int) := by omega
                go_wp2
                go_quiet (fail)
                go_wp2
                go_roundw
                case rel => exact ⟨q + 1, by omega, by go_num, below_drewN hbw _, z0, z1⟩
                case measure => simp [intOf]; omega
              · go_wp2
                go_roundw
                case rel => exact ⟨j + 1, by omega, by go_num, hbw, z0, z1⟩
                case measure => simp [intOf]; omega
        · obtain rfl : j = 4 := by omega
          go_wp2
          go_roundw
          case rel => exact ⟨k + 1, by omega, by go_num, hbw⟩
          case measure => simp [intOf]; omega
    · go_wp2
      go_ret
      exact ⟨rfl, hbw⟩
end Go.Proofs.YtijpgamdpcgneaaGreat
