import Derived.Test.YtijpgamdpcgneaaGreatRows
import Derived.Test.YtijpgamdpcgneaaGreatPl
import Derived.ProofKit
import Derived.OpenShut
import Derived.SizedLaws
import Derived.Deep.Slices
namespace Go.Proofs.YtijpgamdpcgneaaGreat
open Go.ChangeShapes Go.WideShapes Go.ChangeAt Go.RowKit Go.Deep

/-- No part of a reading is longer than a process's addresses. -/
def Fits {H : Type} (t : TypeId) (d : DataW H) : Prop := ∀ n ∈ d.weights Tryz.prog t, n ≤ 140737488351232

theorem fits_all {H : Type} {P : Program} {e : TypeId} {d : DataW H} {n : Nat} (hn : n ∈ d.weights P e) : ∀ {l : List (DataW H)}, d ∈ l → n ∈ DataW.weightsAll P e l
  | x :: r, h => by
    rw [DataW.weightsAll, List.mem_append]
    rcases List.mem_cons.1 h with e | e
    · rw [← e]; exact Or.inl hn
    · exact Or.inr (fits_all hn e)

theorem len2 {α : Type} : ∀ {l : List α}, l.length = 2 → ∃ a b, l = [a, b]
  | [a, b], _ => ⟨a, b, rfl⟩
theorem len4 {α : Type} : ∀ {l : List α}, l.length = 4 → ∃ a b c d, l = [a, b, c, d]
  | [a, b, c, d], _ => ⟨a, b, c, d, rfl⟩
theorem len5 {α : Type} : ∀ {l : List α}, l.length = 5 → ∃ a b c d e, l = [a, b, c, d, e]
  | [a, b, c, d, e], _ => ⟨a, b, c, d, e, rfl⟩

theorem Tryz.own : ownKnob Tryz.prog.godebug = none := by kernel_rfl
theorem Tryz.laidOut : laidOutB Tryz.prog = true := by kernel_rfl
theorem Tryz.cells3 : Tryz.prog.cellsOf 3 = 1 := by kernel_rfl
theorem Tryz.cells9 : Tryz.prog.cellsOf 9 = 1 := by kernel_rfl
theorem Tryz.cells33 : Tryz.prog.cellsOf 33 = 2 := by kernel_rfl
theorem Tryz.cells29 : Tryz.prog.cellsOf 29 = 1 := by kernel_rfl
theorem Tryz.bytes33 : Tryz.prog.bytesOf 33 = 24 := by kernel_rfl
theorem Tryz.bytes63 : Tryz.prog.bytesOf 63 = 64 := by kernel_rfl
theorem Tryz.cells63 : Tryz.prog.cellsOf 63 = 5 := by kernel_rfl

section
variable {H : Type} {enc : TypeId × Value → H} {w : World}

/-- A struct of four fields, opened. -/
theorem open_four {P : Program} {t : TypeId} {f0 f1 f2 f3 : Field} {sp : Nat → Bool} {held : Bool} {n : Nat} {cs : List Value} {x : DataW H × List MemPlace} (ht : P.underlying t = some (.struct #[f0, f1, f2, f3])) (h : DataW.trod enc P w 0 sp held n t cs = some x) :
    ∃ (y0 y1 y2 y3 : DataW H × List MemPlace) (k : Nat), x.1 = .agg [y0.1, y1.1, y2.1, y3.1] ∧ cs.length = P.cellsOf t ∧
      DataW.trod enc P w 0 sp held k f0.type ((cs.drop f0.offset).take (P.cellsOf f0.type)) = some y0 ∧ DataW.trod enc P w 0 sp held k f1.type ((cs.drop f1.offset).take (P.cellsOf f1.type)) = some y1 ∧
      DataW.trod enc P w 0 sp held k f2.type ((cs.drop f2.offset).take (P.cellsOf f2.type)) = some y2 ∧ DataW.trod enc P w 0 sp held k f3.type ((cs.drop f3.offset).take (P.cellsOf f3.type)) = some y3 := by
  obtain ⟨ys, k, _, rfl, hl, hlen, hf⟩ := DataW.trod_struct ht h
  obtain ⟨y0, y1, y2, y3, rfl⟩ := len4 hlen
  exact ⟨y0, y1, y2, y3, k, rfl, hl, by simpa using hf 0 f0 rfl, by simpa using hf 1 f1 rfl, by simpa using hf 2 f2 rfl, by simpa using hf 3 f3 rfl⟩

theorem Fits.slice {t e : TypeId} {l r : List (DataW H)} (ht : Tryz.prog.underlying t = some (.slice e)) (h : Fits t (DataW.slice l r)) : (l.length + r.length) * Tryz.prog.bytesOf e ≤ 140737488351232 ∧ ∀ d ∈ l, Fits e d := by
  refine ⟨h _ (by simp [DataW.weights, ht]), fun d hd n hn => h n ?_⟩
  simp only [DataW.weights, ht, List.mem_cons, List.mem_append]
  exact Or.inr (Or.inl (fits_all hn hd))

theorem Fits.part {t : TypeId} {fs : Array Field} {l : List (DataW H)} (ht : Tryz.prog.underlying t = some (.struct fs)) (h : Fits t (DataW.agg l)) {j : Nat} {u : TypeId} {d : DataW H} (hu : (fs.toList.map (·.type))[j]? = some u) (hd : l[j]? = some d) : Fits u d := by
  intro n hn
  refine h n ?_
  simp only [DataW.weights, ht]
  exact DataW.weights_mem_each hu hd n hn

/-- A module that came in. -/
theorem open_mod {sp : Nat → Bool} {held : Bool} {n : Nat} {cs : List Value} {x : DataW H × List MemPlace} (hk : Fits 33 x.1) (h : DataW.trod enc Tryz.prog w 0 sp held n 33 cs = some x) : ∃ m : Mo, cs = [.string m.1, .int .i64 m.2] ∧ m.1.size ≤ 140737488351232 := by
  obtain ⟨y0, y1, n', rfl, hl, h0, h1⟩ := trod_struct2 Tryz.underlying33 h
  rw [Tryz.cells33] at hl
  obtain ⟨c0, c1, rfl⟩ := len2 hl
  simp only [Tryz.cells9, List.drop_zero, List.take_succ_cons, List.take_zero] at h0
  simp only [Tryz.cells3, List.drop_succ_cons, List.drop_zero, List.take_succ_cons, List.take_zero] at h1
  obtain ⟨s, e0, rfl, _⟩ := DataW.trod_string Tryz.underlying9 h0
  obtain ⟨v, e1, rfl, _⟩ := DataW.trod_int Tryz.underlying3 h1
  refine ⟨(s, v), ?_, ?_⟩
  · rw [List.singleton_inj.1 e0, List.singleton_inj.1 e1]
  · have e : s.data.toList.length = s.size := by rw [Array.length_toList]; rfl
    have := hk.part Tryz.underlying33 (j := 0) (u := 9) rfl rfl s.data.toList.length (by simp [DataW.weights])
    show s.size ≤ _
    omega

/-- A list of modules that came in. -/
theorem open_mods {held : Bool} {n : Nat} {lv : Value} {x : DataW H × List MemPlace} (hk : Fits 29 x.1) (h : DataW.trod enc Tryz.prog w 0 (fun _ => true) held n 29 [lv] = some x) : ∃ xs : List Mo, InL w lv xs ∧ (∀ q ∈ xs, q.1.size ≤ 140737488351232) ∧ xs.length * 24 ≤ 140737488351232 := by
  rcases open_slice Tryz.underlying29 h with ⟨h0, _⟩ | ⟨a, len, cap, m, n', D, Pl, h0, _, hlc, _, hm, rfl, hx⟩
  · exact ⟨[], Or.inl ⟨List.singleton_inj.1 h0, rfl⟩, fun q hq => (by cases hq), by decide⟩
  obtain rfl := List.singleton_inj.1 h0
  by_cases hz : len = 0
  · subst hz
    exact ⟨[], Or.inr (Or.inr ⟨a, cap, rfl, rfl⟩), fun q hq => (by cases hq), by decide⟩
  have hm' : m = cap := by rw [hm]; rfl
  rw [Tryz.cells33] at hx
  obtain ⟨hsz, hin⟩ := Fits.slice Tryz.underlying29 hk
  rw [Tryz.bytes33] at hsz
  have hf : ∀ i, i < len → ∃ q : Mo, w.cell? ((a.add (i * 2)).add 0) = some (.string q.1) ∧ w.cell? ((a.add (i * 2)).add 1) = some (.int .i64 q.2) ∧ q.1.size ≤ 140737488351232 := by
    intro i hi
    obtain ⟨cs, c1, c2⟩ := hx i (by omega)
    obtain ⟨q, rfl, hq⟩ := open_mod (hin (D i) (List.mem_map.2 ⟨i, List.mem_range.2 hi, rfl⟩)) c2
    obtain ⟨_, _, hc⟩ := World.cells?_some c1
    exact ⟨q, hc 0 (by decide), hc 1 (by decide), hq⟩
  obtain ⟨f, hf⟩ := choose_lt (α := Mo) (p := fun i q => w.cell? ((a.add (i * 2)).add 0) = some (.string q.1) ∧ w.cell? ((a.add (i * 2)).add 1) = some (.int .i64 q.2) ∧ q.1.size ≤ 140737488351232) hf
  have hs0 := (hf 0 (by omega)).1
  rw [Nat.zero_mul] at hs0
  have hsp : a.spot = none := World.cell?_spot hs0
  have hbl : a.block < w.heap.size := World.block_lt_of_cell? _ _ hs0
  obtain ⟨b, off, sp⟩ := a
  simp only at hsp hbl
  subst hsp
  have hlen : ((List.range len).map f).length = len := by simp
  refine ⟨(List.range len).map f, Or.inr (Or.inl ⟨b, off, cap, by rw [hlen], hbl, Or.inr ⟨b, off, cap, by rw [hlen], by rw [hlen]; exact hlc, ?_⟩⟩), ?_, ?_⟩
  · intro i q hi
    rw [List.getElem?_map, Option.map_eq_some_iff] at hi
    obtain ⟨j, hj, rfl⟩ := hi
    have hjl : i < len := by
      have := (List.getElem?_eq_some_iff.1 hj).1
      simpa using this
    have : j = i := by
      rw [List.getElem?_range hjl] at hj
      exact (Option.some.inj hj).symm
    subst this
    obtain ⟨e0, e1, _⟩ := hf j hjl
    rw [add_plain, add_plain] at e0 e1
    exact ⟨e0, e1⟩
  · intro q hq
    obtain ⟨i, hi, rfl⟩ := List.mem_map.1 hq
    have hi' : i < len := by simpa using hi
    exact (hf i hi').2.2
  · rw [hlen]
    simp only [List.length_map, List.length_range] at hsz
    omega

/-- A step that came in. -/
theorem open_step {held : Bool} {n : Nat} {cs : List Value} {x : DataW H × List MemPlace} (hk : Fits 63 x.1) (h : DataW.trod enc Tryz.prog w 0 (fun _ => true) held n 63 cs = some x) :
    ∃ (d : Stepd) (lv : Value), cs = [.int .i64 d.kind, .int .i64 d.s, .string d.m.1, .int .i64 d.m.2, lv] ∧ Small d ∧ InL w lv d.xs := by
  obtain ⟨y0, y1, y2, y3, n', hx, hl, h0, h1, h2, h3⟩ := open_four Tryz.underlying63 h
  rw [Tryz.cells63] at hl
  rw [hx] at hk
  obtain ⟨c0, c1, c2, c3, c4, rfl⟩ := len5 hl
  simp only [Tryz.cells3, List.drop_zero, List.take_succ_cons, List.take_zero] at h0
  simp only [Tryz.cells3, List.drop_succ_cons, List.drop_zero, List.take_succ_cons, List.take_zero] at h1
  simp only [Tryz.cells33, List.drop_succ_cons, List.drop_zero, List.take_succ_cons, List.take_zero] at h2
  simp only [Tryz.cells29, List.drop_succ_cons, List.drop_zero, List.take_succ_cons, List.take_zero] at h3
  obtain ⟨k, e0, _, _⟩ := DataW.trod_int Tryz.underlying3 (x := y0) h0
  obtain ⟨s, e1, _, hwf⟩ := DataW.trod_int Tryz.underlying3 (x := y1) h1
  obtain ⟨m, e2, hms⟩ := open_mod (x := y2) (hk.part Tryz.underlying63 (j := 2) rfl rfl) h2
  obtain ⟨xs, hin, hxs, hxl⟩ := open_mods (x := y3) (hk.part Tryz.underlying63 (j := 3) rfl rfl) h3
  have hwf' : -9223372036854775808 ≤ s ∧ s ≤ 9223372036854775807 := by simpa [Lit.wf, IntKind.min, IntKind.max, IntKind.signed, IntKind.bits] using hwf
  simp only [List.cons.injEq, and_true] at e0 e1 e2
  refine ⟨⟨k, s, m, xs⟩, c4, by rw [e0, e1, e2.1, e2.2], ⟨hwf'.1, hwf'.2, ?_, hxl⟩, hin⟩
  intro q hq
  rcases List.mem_cons.1 hq with e | e
  · rw [e]; exact hms
  · exact hxs q e

/-- A script that came in. -/
theorem open_script {n : Nat} {sv : Value} {x : DataW H × List MemPlace} (hk : Fits 22 x.1) (h : DataW.trod enc Tryz.prog w 0 (fun _ => true) true n 22 [sv] = some x) : ∃ ops : List Stepd, Script w sv ops ∧ ops.length * 64 ≤ 140737488351232 := by
  rcases open_slice Tryz.underlying22 h with ⟨h0, _⟩ | ⟨a, len, cap, m, n', D, Pl, h0, _, hlc, _, hm, rfl, hx⟩
  · exact ⟨[], Or.inl ⟨List.singleton_inj.1 h0, rfl⟩, by decide⟩
  obtain rfl := List.singleton_inj.1 h0
  by_cases hz : len = 0
  · subst hz
    exact ⟨[], Or.inr (Or.inr ⟨a, cap, rfl, rfl⟩), by decide⟩
  have hm' : m = cap := by rw [hm]; rfl
  rw [Tryz.cells63] at hx
  obtain ⟨hsz, hins⟩ := Fits.slice Tryz.underlying22 hk
  rw [Tryz.bytes63] at hsz
  simp only [List.length_map, List.length_range] at hsz
  have hf : ∀ i, i < len → ∃ d : Stepd, Small d ∧ ∃ lv, InL w lv d.xs ∧ w.cell? ((a.add (i * 5)).add 0) = some (.int .i64 d.kind) ∧ w.cell? ((a.add (i * 5)).add 1) = some (.int .i64 d.s) ∧ w.cell? ((a.add (i * 5)).add 2) = some (.string d.m.1) ∧ w.cell? ((a.add (i * 5)).add 3) = some (.int .i64 d.m.2) ∧ w.cell? ((a.add (i * 5)).add 4) = some lv := by
    intro i hi
    obtain ⟨cs, c1, c2⟩ := hx i (by omega)
    obtain ⟨d, lv, rfl, hs, hin⟩ := open_step (hins (D i) (List.mem_map.2 ⟨i, List.mem_range.2 hi, rfl⟩)) c2
    obtain ⟨_, _, hc⟩ := World.cells?_some c1
    exact ⟨d, hs, lv, hin, hc 0 (by decide), hc 1 (by decide), hc 2 (by decide), hc 3 (by decide), hc 4 (by decide)⟩
  haveI : Inhabited Stepd := ⟨⟨0, 0, (⟨#[]⟩, 0), []⟩⟩
  obtain ⟨f, hf⟩ := choose_lt (α := Stepd) (p := fun i d => Small d ∧ ∃ lv, InL w lv d.xs ∧ w.cell? ((a.add (i * 5)).add 0) = some (.int .i64 d.kind) ∧ w.cell? ((a.add (i * 5)).add 1) = some (.int .i64 d.s) ∧ w.cell? ((a.add (i * 5)).add 2) = some (.string d.m.1) ∧ w.cell? ((a.add (i * 5)).add 3) = some (.int .i64 d.m.2) ∧ w.cell? ((a.add (i * 5)).add 4) = some lv) hf
  obtain ⟨_, _, _, hs0, _⟩ := hf 0 (by omega)
  rw [Nat.zero_mul] at hs0
  have hsp : a.spot = none := World.cell?_spot hs0
  have hbl : a.block < w.heap.size := World.block_lt_of_cell? _ _ hs0
  obtain ⟨b, off, sp⟩ := a
  simp only at hsp hbl
  subst hsp
  have hlen : ((List.range len).map f).length = len := by simp
  refine ⟨(List.range len).map f, Or.inr (Or.inl ⟨b, off, cap, by rw [hlen], hbl, ?_⟩), by rw [hlen]; omega⟩
  intro i q hi
  rw [List.getElem?_map, Option.map_eq_some_iff] at hi
  obtain ⟨j, hj, rfl⟩ := hi
  have hjl : i < len := by
    have := (List.getElem?_eq_some_iff.1 hj).1
    simpa using this
  have : j = i := by
    rw [List.getElem?_range hjl] at hj
    exact (Option.some.inj hj).symm
  subst this
  obtain ⟨hsm, lv, hin, e0, e1, e2, e3, e4⟩ := hf j hjl
  rw [add_plain, add_plain] at e0 e1 e2 e3 e4
  exact ⟨hsm, lv, ⟨e0, e1, e2, e3, e4⟩, hin⟩
end
end Go.Proofs.YtijpgamdpcgneaaGreat
