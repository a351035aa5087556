import Derived.Test.YtijpgamdpcgneaaGreatT
import Derived.Maps.RangeRun
import Derived.Deep.LoopGhost
namespace Go.Proofs.YtijpgamdpcgneaaGreat
open Go.RowKit Go.MapKept
open Go.ChangeMaps (setBlock)

def hit (p : ByteArray) (e : En) : Bool := (e.m.1.toList == p.toList) && !e.ret
def latestE (ents : List En) (p : ByteArray) : Int := ents.foldl (fun n e => if hit p e then max n e.m.2 else n) 0

/-- cur is the greatest of those of which it is said. -/
def MaxIs (ents : List En) (p : ByteArray) (S : Nat → Prop) (cur : Int) : Prop :=
  (∀ (i : Nat) e, ents[i]? = some e → S i → hit p e = true → e.m.2 ≤ cur) ∧ 0 ≤ cur ∧ (cur = 0 ∨ ∃ (i : Nat) (e : En), ents[i]? = some e ∧ hit p e = true ∧ e.m.2 = cur)

theorem MaxIs.unique {ents : List En} {p : ByteArray} {S S' : Nat → Prop} {a b : Int} (h : MaxIs ents p S a) (h' : MaxIs ents p S' b) (hS : ∀ i, i < ents.length → S i) (hS' : ∀ i, i < ents.length → S' i) : a = b := by
  obtain ⟨h1, h2, h3⟩ := h
  obtain ⟨k1, k2, k3⟩ := h'
  have hab : a ≤ b := by
    rcases h3 with rfl | ⟨i, e, hi, hh, rfl⟩
    · exact k2
    · exact k1 i e hi (hS' i (List.getElem?_eq_some_iff.1 hi).1) hh
  have hba : b ≤ a := by
    rcases k3 with rfl | ⟨i, e, hi, hh, rfl⟩
    · exact h2
    · exact h1 i e hi (hS i (List.getElem?_eq_some_iff.1 hi).1) hh
  omega

theorem MaxIs.step {ents : List En} {p : ByteArray} {S S' : Nat → Prop} {a : Int} (h : MaxIs ents p S a) {i : Nat} {e : En} (hi : ents[i]? = some e) (hS : ∀ j, S' j → S j ∨ j = i) : MaxIs ents p S' (if hit p e then max a e.m.2 else a) := by
  obtain ⟨h1, h2, h3⟩ := h
  cases hh : hit p e
  · refine ⟨?_, by simpa using h2, by simpa using h3⟩
    intro j e' hj hs hh'
    rcases hS j hs with hs | rfl
    · simpa using h1 j e' hj hs hh'
    · rw [hi] at hj; cases hj; rw [hh] at hh'; cases hh'
  · refine ⟨?_, by simp; omega, ?_⟩
    · intro j e' hj hs hh'
      rcases hS j hs with hs | rfl
      · have := h1 j e' hj hs hh'
        simp; omega
      · rw [hi] at hj; cases hj; simp; omega
    · by_cases hle : a ≤ e.m.2
      · right
        exact ⟨i, e, hi, hh, by simp; omega⟩
      · have e1 : max a e.m.2 = a := by omega
        simp only [if_true, e1]
        exact h3

theorem latestE_is (ents : List En) (p : ByteArray) : MaxIs ents p (fun _ => True) (latestE ents p) := by
  have key : ∀ (k : Nat), k ≤ ents.length → MaxIs ents p (fun i => i < k) ((ents.take k).foldl (fun n e => if hit p e then max n e.m.2 else n) 0) := by
    intro k
    induction k with
    | zero => intro _; exact ⟨fun i e _ h => by omega, by simp, Or.inl (by simp)⟩
    | succ k ih =>
      intro hk
      have he : ents[k]? = some ents[k] := List.getElem?_eq_getElem (by omega)
      rw [List.take_add_one, he, List.foldl_append]
      exact (ih (by omega)).step he (fun j hj => by omega)
  have := key ents.length (Nat.le_refl _)
  rw [List.take_length] at this
  exact ⟨fun i e hi _ hh => this.1 i e hi (List.getElem?_eq_some_iff.1 hi).1 hh, this.2⟩

theorem MaxIs.latest {ents : List En} {p : ByteArray} {S : Nat → Prop} {a : Int} (h : MaxIs ents p S a) (hS : ∀ i, i < ents.length → S i) : a = latestE ents p :=
  h.unique (latestE_is ents p) hS (fun _ _ => trivial)

def latestR (ents : List En) (p : ByteArray) : Int × Int := if latestE ents p = 0 then (0, 7) else (latestE ents p, 0)

set_option maxRecDepth 20000 in
set_option maxHeartbeats 1000000 in
theorem Latest_calls (w : World) (F : Nat → Prop) (a : Nat) (ents : List En) (p : ByteArray) (h : PSh w F a ents) (hF : ∀ k, F k → k < w.heap.size) :
    Calls Tryz.prog 27 #[.pointer (some ⟨a, 0, none⟩), .string p] w fun e w' => e = .returned (.tuple #[.int .i64 (latestR ents p).1, .int .i64 (latestR ents p).2]) ∧ Below w.heap.size w w' := by
  have hP := hide h
  obtain ⟨mb, es, ebs, nbs, h1, h2, h3, h4, h5, h6, h7, h8, h9⟩ := h
  have hal := hF a h6
  have hml := hF mb h7
  have c0 : w.cell? ⟨a, 0, none⟩ = some (.map (some mb)) := by rw [cell_of_block h1]; rfl
  have hrange : ∀ W : World, W = w → (Instr.range 80 (.map (some mb))).run Tryz.prog W = .ok (.pointer (some ⟨W.heap.size, 0, none⟩)) (W.alloc (.mapIter (some mb) ents.length #[] ents.length)) := by
    intro W hW
    subst hW
    simp [Instr.range, run_underlying Tryz.under80, MapKept.run_getObj_map h2, newObj, Result.andThen]
    rfl
  have hrg := hrange w rfl
  clear hrange
  have hborn : ∀ x ∈ es.toList, ∃ i e eb, ents[i]? = some e ∧ x = { key := mv e.m, val := .pointer (some ⟨eb, 0, none⟩), born := i } ∧ eb < w.heap.size ∧ w.cell? ⟨eb, 1, none⟩ = some (.bool e.ret) := by
    intro x hx
    obtain ⟨i, hi, rfl⟩ := List.getElem_of_mem hx
    have hil : i < ents.length := by simp at hi; omega
    obtain ⟨g1, g2, g3, g4, g5⟩ := h9 i ents[i] ebs[i] nbs[i] (List.getElem?_eq_getElem hil) (List.getElem?_eq_getElem (by omega)) (List.getElem?_eq_getElem (by omega))
    refine ⟨i, ents[i], ebs[i], List.getElem?_eq_getElem hil, ?_, hF _ g4, ?_⟩
    · rw [Array.getElem?_eq_getElem (by omega)] at g1
      simpa using g1
    · rw [cell_of_block g2]; rfl
  have hnd : (es.toList.map (·.born)).Nodup := by
    have : es.toList.map (·.born) = List.range ents.length := by
      apply List.ext_getElem?
      intro i
      by_cases hi : i < ents.length
      · have g1 := (h9 i ents[i] ebs[i] nbs[i] (List.getElem?_eq_getElem hi) (List.getElem?_eq_getElem (by omega)) (List.getElem?_eq_getElem (by omega))).1
        simp [g1, hi]
      · rw [List.getElem?_eq_none (by simp; omega), List.getElem?_eq_none (by simp; omega)]
    rw [this]
    exact List.nodup_range
  have hold : ∀ x ∈ es.toList, x.born < ents.length := by
    intro x hx
    obtain ⟨i, e, eb, hi, rfl, _⟩ := hborn x hx
    exact (List.getElem?_eq_some_iff.1 hi).1
  have hall : ∀ i, i < ents.length → ∃ x ∈ es.toList, x.born = i := by
    intro i hi
    have g1 := (h9 i ents[i] ebs[i] nbs[i] (List.getElem?_eq_getElem hi) (List.getElem?_eq_getElem (by omega)) (List.getElem?_eq_getElem (by omega))).1
    exact ⟨_, List.mem_of_getElem? (by simpa using g1), rfl⟩
  have HALL := hide hall
  have HB := hide hborn
  have HN := hide hnd
  have HO := hide hold
  have H2 := hide h2
  obtain ⟨R, hR⟩ : ∃ R, latestR ents p = R := ⟨_, rfl⟩
  rw [hR]
  have HR := hide hR
  clear hall hborn hnd hold h1 h2 h3 h4 h5 h6 h8 h9 hR
  go_enter Tryz.func27, Tryz.ntmps27
  go_wp2
  go_loopg [6] (leftOf es #[]).size (fun gf v wx => ∃ (seen : Array Nat) (cur : Int), v = .int .i64 cur ∧ wx.heap[w.heap.size]? = some (.mapIter (some mb) ents.length seen ents.length) ∧ Below w.heap.size w wx ∧ MaxIs ents p (fun i => seen.contains i = true) cur ∧ (leftOf es seen).size ≤ gf)
  case atStart => exact ⟨#[], 0, rfl, heap_alloc_new w _, below_one _ _, ⟨fun i e _ h => by simp at h, by simp, Or.inl rfl⟩, Nat.le_refl _⟩
  case round =>
    clear hrg
    obtain ⟨seen, cur, rfl, hitr, hbw, hmax, hfu⟩ := hrel
    have hmb : wr.heap[mb]? = some (.map es ents.length) := (hbw.block mb hml).trans (unhide H2)
    have HM := hide hmax
    clear hmax
    rcases run_next_at (P := Tryz.prog) wr 0 w.heap.size mb ents.length ents.length seen es ents.length hitr hmb (unhide HO) (Nat.le_refl _) with ⟨hl0, hrun⟩ | ⟨x, hx, w1, hw1, hrun⟩
    · have hS : Hid (cur = latestE ents p) := (unhide HM).latest (fun i hi => by
        obtain ⟨x, hx, rfl⟩ := unhide HALL i hi
        exact all_seen es seen hl0 x hx)
      clear hitr hmb hl0
      go_wp2
      · go_ret2
        have h0 : (cur == 0) = true := by assumption
        have h0' : cur = 0 := by simpa using h0
        refine ⟨?_, hbw⟩
        rw [← unhide HR, latestR, ← unhide hS, if_pos h0']
        rfl
      · go_ret2
        have h0 : (cur == 0) = false := by assumption
        have h0' : ¬ cur = 0 := by simpa using h0
        refine ⟨?_, hbw⟩
        rw [← unhide HR, latestR, ← unhide hS, if_neg h0']
        rfl
    · obtain ⟨hxm, hxs⟩ := mem_left hx
      obtain ⟨i, e, eb, hi, rfl, hel, hce⟩ := unhide HB x hxm
      have hshr := left_shrinks es seen _ hx
      have hr1 : w1.heap[w.heap.size]? = some (.mapIter (some mb) ents.length seen ents.length) := by rcases hw1 with rfl | rfl <;> exact hitr
      have hb1 : Below w.heap.size w w1 := by
        rcases hw1 with rfl | rfl
        · exact hbw
        · exact hbw.drew
      have hbs : (setBlock w1 w.heap.size (.mapIter (some mb) ents.length (seen.push i) ents.length)).heap[w.heap.size]? = some (.mapIter (some mb) ents.length (seen.push i) ents.length) := (heap_set hr1).1
      have hb2 : Below w.heap.size w (setBlock w1 w.heap.size (.mapIter (some mb) ents.length (seen.push i) ents.length)) := below_setMap hb1 (Nat.le_refl _) _
      obtain ⟨W2, hW2⟩ : ∃ W2, setBlock w1 w.heap.size (.mapIter (some mb) ents.length (seen.push i) ents.length) = W2 := ⟨_, rfl⟩
      simp only [hW2] at hrun hbs hb2
      have hent := run_entry_at (P := Tryz.prog) W2 w.heap.size mb ents.length seen es ents.length { key := mv e.m, val := .pointer (some ⟨eb, 0, none⟩), born := i } hbs ((hb2.block mb hml).trans (unhide H2)) hxm (unhide HN)
      simp only [mv] at hrun hent
      have cE := (hb2.cell (p := ⟨eb, 1, none⟩) hel).trans hce
      have c1 : (W2.alloc (.cells #[.string e.m.1, .int .i64 e.m.2] 78)).cell? ⟨eb, 1, none⟩ = some (.bool e.ret) := by
        rw [World.cell?_of_block (w := W2) (Below.heap_alloc _ _ _ (by have := hb2.size; show eb < _; omega))]
        exact cE
      have hs2 := hb2.size
      have HI := hide hi
      have hstep : Hid (MaxIs ents p (fun j => (seen.push i).contains j = true) (if hit p e then max cur e.m.2 else cur)) := (unhide HM).step hi (fun j hj => by simp at hj; simpa using hj)
      have hr3 : Hid ((W2.alloc (.cells #[.string e.m.1, .int .i64 e.m.2] 78)).heap[w.heap.size]? = some (.mapIter (some mb) ents.length (seen.push i) ents.length)) := (Below.heap_alloc _ _ _ (Array.getElem?_eq_some_iff.1 hbs).1).trans hbs
      clear hitr hmb hr1 hb1 hbs hW2 hxm hxs hx hi hce cE hw1 HM
      obtain ⟨g', rfl⟩ : ∃ g', gk = g' + 1 := ⟨gk - 1, by omega⟩
      obtain ⟨q, hq⟩ : ∃ q, e.ret = q := ⟨_, rfl⟩
      rw [hq] at c1
      have HQ := hide hq
      clear hq
      by_cases hpe : e.m.1.toList = p.toList
      · have hpb : (e.m.1.toList == p.toList) = true := by simpa using hpe
        have HPE := hide hpe
        clear hpe
        cases q
        · have hst := unhide hstep
          rw [if_pos (by simp [hit, unhide HPE, unhide HQ])] at hst
          have HST := hide hst
          clear hst
          go_wp2
          · go_roundg g'
            case measure => omega
            case rel =>
              refine ⟨seen.push i, _, rfl, unhide hr3, hb2.alloc hs2 _, ?_, by omega⟩
              have := unhide HST
              rw [show max cur e.m.2 = e.m.2 by omega] at this
              exact this
          · go_roundg g'
            case measure => omega
            case rel =>
              refine ⟨seen.push i, _, rfl, unhide hr3, hb2.alloc hs2 _, ?_, by omega⟩
              have := unhide HST
              rw [show max cur e.m.2 = cur by omega] at this
              exact this
        · go_wp2
          go_roundg g'
          case measure => omega
          case rel =>
            refine ⟨seen.push i, cur, rfl, unhide hr3, hb2.alloc hs2 _, ?_, by omega⟩
            have := unhide hstep
            rw [if_neg (by simp [hit, unhide HQ])] at this
            exact this
      · have hpb : (e.m.1.toList == p.toList) = false := by simpa using hpe
        have HPE := hide hpe
        clear hpe
        go_wp2
        go_roundg g'
        case measure => omega
        case rel =>
          refine ⟨seen.push i, cur, rfl, unhide hr3, hb2.alloc hs2 _, ?_, by omega⟩
          have := unhide hstep
          rw [if_neg (by simp [hit, unhide HPE])] at this
          exact this
end Go.Proofs.YtijpgamdpcgneaaGreat
