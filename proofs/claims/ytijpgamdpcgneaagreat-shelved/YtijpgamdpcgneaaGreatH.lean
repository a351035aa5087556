import Derived.Test.YtijpgamdpcgneaaGreatG
namespace Go.Proofs.YtijpgamdpcgneaaGreat
open Go.RowKit Go.MapKept

theorem ba_ext {a b : ByteArray} (h : a.toList = b.toList) : a = b := by
  rw [ByteArray.toList_eq, ByteArray.toList_eq] at h
  obtain ⟨⟨x⟩⟩ := a
  obtain ⟨⟨y⟩⟩ := b
  simp at h
  subst h
  rfl

theorem ba_beq (a b : ByteArray) : (a == b) = decide (a = b) := by
  rw [beq_toListBytes]
  by_cases h : a = b
  · subst h; simp
  · have : a.toList ≠ b.toList := fun e => h (ba_ext e)
    simp [h, this]

theorem Tryz.under180 : Tryz.prog.underlying 180 = some (.map 9 117) := by kernel_rfl

/-- A store into the set: the keys, and the world but for that block. -/
theorem run_setStore (W : World) (r : Nat) (es : Array MapEntry) (clock : Nat) (hr : W.heap[r]? = some (.map es clock)) (ks : List ByteArray) (hk : es.toList.map (·.key) = ks.map Value.string) (s : ByteArray) :
    ∃ es' clock' ks', (Instr.mapUpdate 180 (.map (some r)) (.string s) (.agg #[])).run Tryz.prog W = .ok () { W with heap := W.heap.setIfInBounds r (.map es' clock') } ∧ es'.toList.map (·.key) = ks'.map Value.string ∧ ((s ∈ ks ∧ ks' = ks) ∨ (s ∉ ks ∧ ks' = ks ++ [s])) := by
  have hks : ∀ x ∈ es.toList, IsKey .string x.key := by
    intro x hx
    have : x.key ∈ es.toList.map (·.key) := List.mem_map.2 ⟨x, hx, rfl⟩
    rw [hk] at this
    obtain ⟨q, _, hq⟩ := List.mem_map.1 this
    rw [← hq]
    exact trivial
  have hd := Tryz.underlying9
  have hm := Tryz.under180
  have hkk : IsKey .string (.string s) := trivial
  rcases findNow_spec hkk es.toList 0 hks with ⟨h1, h2⟩ | ⟨j, e, h1, h2, h3⟩
  · refine ⟨es.push { key := .string s, val := .agg #[], born := clock }, clock + 1, ks ++ [s], ?_, by simp [hk], Or.inr ⟨?_, rfl⟩⟩
    · simp [Instr.mapUpdate, run_underlying hm, MapKept.run_getObj_map hr, run_checkKey hd hkk, run_findKey hd h1, run_setObj_map _ hr, Result.andThen]
    · intro hs
      have : Value.string s ∈ es.toList.map (·.key) := by rw [hk]; exact List.mem_map.2 ⟨s, hs, rfl⟩
      obtain ⟨x, hx, hxe⟩ := List.mem_map.1 this
      exact h2 x hx hxe
  · have hj : es[j]? = some e := by simpa using h2
    refine ⟨es.modify j fun e => { e with key := .string s, val := .agg #[] }, clock, ks, ?_, ?_, Or.inl ⟨?_, rfl⟩⟩
    · simp [Instr.mapUpdate, run_underlying hm, MapKept.run_getObj_map hr, run_checkKey hd hkk, run_findKey hd h1, hj, h3, run_keyThatStays hkk, run_setObj_map _ hr, Result.andThen]
    · rw [← hk]
      apply List.ext_getElem?
      intro n
      simp only [List.getElem?_map, Array.getElem?_toList, Array.getElem?_modify]
      by_cases hjn : j = n
      · rw [if_pos hjn, ← hjn, hj]
        simp [h3]
      · rw [if_neg hjn]
    · have : e.key ∈ es.toList.map (·.key) := List.mem_map.2 ⟨e, List.mem_of_getElem? h2, rfl⟩
      rw [hk, h3] at this
      obtain ⟨q, hq, hqe⟩ := List.mem_map.1 this
      cases hqe
      exact hq

theorem below_setMap {B r : Nat} {a w : World} (h : Below B a w) (hr : B ≤ r) (o : Obj) : Below B a { w with heap := w.heap.setIfInBounds r o } :=
  h.trans ⟨rfl, rfl, rfl, by simp, fun k hk => by simp [show r ≠ k by omega]⟩

/-- Two of them have one path. -/
def twice (l : List Mo) : Bool := !decide (l.Pairwise fun a b => a.1.toList ≠ b.1.toList)

theorem run_makeSet (n : Int) (W : World) : (Instr.makeMap 180 (some (.int .i64 n))).run Tryz.prog W = .ok (.map (some W.heap.size)) (W.alloc (.map #[] 0)) := by
  simp [Instr.makeMap, run_underlying Tryz.under180, asInt, asIntOf, Result.andThen]

theorem twice_snoc (l : List Mo) (a : Mo) : twice (l ++ [a]) = (twice l || l.any (fun b => b.1.toList == a.1.toList)) := by
  rw [Bool.eq_iff_iff]
  simp only [twice, List.pairwise_append, Bool.not_eq_true', decide_eq_false_iff_not, Bool.or_eq_true, List.any_eq_true, beq_iff_eq]
  constructor
  · intro h
    by_cases h1 : l.Pairwise fun a b => a.1.toList ≠ b.1.toList
    · right
      apply Classical.byContradiction
      intro hh
      apply h
      refine ⟨h1, List.pairwise_singleton _ _, ?_⟩
      intro x hx y hy e
      simp at hy
      subst hy
      exact hh ⟨x, hx, e⟩
    · exact Or.inl h1
  · rintro (h | ⟨x, hx, e⟩) ⟨h1, _, h3⟩
    · exact h h1
    · exact h3 x hx a (by simp) e

/-- What the set holds after k rounds. -/
structure SetIs (w : World) (r : Nat) (xs : List Mo) (k : Nat) : Prop where
  has : ∃ (es : Array MapEntry) (clock : Nat) (ks : List ByteArray), w.heap[r]? = some (.map es clock) ∧ es.toList.map (·.key) = ks.map Value.string ∧ (∀ s, s ∈ ks ↔ ∃ m ∈ xs.take k, m.1 = s) ∧ ks.length ≤ k ∧ (ks.length < k ↔ twice (xs.take k) = true)

theorem SetIs.start (w : World) (xs : List Mo) : SetIs (w.alloc (.map #[] 0)) w.heap.size xs 0 :=
  ⟨#[], 0, [], heap_alloc_new w _, by simp, by simp, by simp, by simp [twice]⟩

theorem SetIs.step {w : World} {r : Nat} {xs : List Mo} {k : Nat} (h : SetIs w r xs k) (m : Mo) (hm : xs[k]? = some m) :
    ∃ es clock, (Instr.mapUpdate 180 (.map (some r)) (.string m.1) (.agg #[])).run Tryz.prog w = .ok () { w with heap := w.heap.setIfInBounds r (.map es clock) } ∧ SetIs { w with heap := w.heap.setIfInBounds r (.map es clock) } r xs (k + 1) := by
  obtain ⟨es, clock, ks, hr, hk, hmem, hle, hlt⟩ := h
  obtain ⟨es', clock', ks', h1, h2, h3⟩ := run_setStore w r es clock hr ks hk m.1
  refine ⟨es', clock', h1, ⟨es', clock', ks', (heap_set hr).1, h2, ?_⟩⟩
  have ht : xs.take (k + 1) = xs.take k ++ [m] := by
    rw [List.take_add_one, hm]; rfl
  have hany : (xs.take k).any (fun b => b.1.toList == m.1.toList) = true ↔ m.1 ∈ ks := by
    rw [hmem, List.any_eq_true]
    constructor
    · rintro ⟨x, hx, e⟩
      exact ⟨x, hx, ba_ext (by simpa using e)⟩
    · rintro ⟨x, hx, e⟩
      exact ⟨x, hx, by simp [e]⟩
  rw [ht]
  rcases h3 with ⟨hin, rfl⟩ | ⟨hin, rfl⟩
  · refine ⟨?_, by omega, ?_⟩
    · intro s
      rw [hmem]
      constructor
      · rintro ⟨x, hx, e⟩
        exact ⟨x, by simp [hx], e⟩
      · rintro ⟨x, hx, e⟩
        simp only [List.mem_append, List.mem_singleton] at hx
        rcases hx with hx | rfl
        · exact ⟨x, hx, e⟩
        · rw [← hmem, ← e]; exact hin
    · rw [twice_snoc, hany.2 hin]
      simp
      omega
  · refine ⟨?_, by simp; omega, ?_⟩
    · intro s
      simp only [List.mem_append, List.mem_singleton, hmem]
      constructor
      · rintro (⟨x, hx, e⟩ | rfl)
        · exact ⟨x, Or.inl hx, e⟩
        · exact ⟨m, Or.inr rfl, rfl⟩
      · rintro ⟨x, hx | rfl, e⟩
        · exact Or.inl ⟨x, hx, e⟩
        · exact Or.inr e.symm
    · have : (xs.take k).any (fun b => b.1.toList == m.1.toList) = false := by
        rw [Bool.eq_false_iff]; intro e; exact hin (hany.1 e)
      rw [twice_snoc, this]
      simp
      exact hlt

set_option maxRecDepth 20000 in
set_option maxHeartbeats 1000000 in
theorem namesPathTwice_calls (v : Value) (xs : List Mo) (hx : xs.length ≤ 140737488355328) (hne : xs ≠ []) (w : World) (h : LstAt w v xs) :
    Calls Tryz.prog 74 #[v] w fun e w' => e = .returned (.bool (twice xs)) ∧ Below w.heap.size w w' := by
  obtain ⟨b, off, cap, rfl, hb, hc⟩ := h.at hne
  have HC := hide hc
  clear hc h
  have hmk := fun n W => run_makeSet n W
  go_enter Tryz.func74, Tryz.ntmps74
  go_wp2
  go_loopw [11] (fun i wr => ∃ k : Nat, k ≤ xs.length ∧ i = .int .i64 k ∧ Below w.heap.size w wr ∧ SetIs wr w.heap.size xs k) (fun i _ => xs.length - (intOf i).toNat)
  case atStart => exact ⟨0, Nat.zero_le _, rfl, below_one _ _, SetIs.start _ _⟩
  case round =>
    obtain ⟨k, hk, rfl, hbw, hset⟩ := hrel
    clear hmk
    by_cases hlt : k < xs.length
    · obtain ⟨m, hm⟩ : ∃ m, xs[k]? = some m := ⟨_, List.getElem?_eq_getElem hlt⟩
      have c0 := (hbw.cell (p := ⟨b, off + k * 2, none⟩) hb).trans (unhide HC k m hm).1
      have c1 := (hbw.cell (p := ⟨b, off + k * 2 + 1, none⟩) hb).trans (unhide HC k m hm).2
      have hbs := hbw.size
      have hset' : SetIs (wr.alloc (.cells #[.string m.1, .int .i64 m.2] 78)) w.heap.size xs k := by
        obtain ⟨es, clock, ks, h1, h2⟩ := hset.has
        have hl : w.heap.size < wr.heap.size := (Array.getElem?_eq_some_iff.1 h1).1
        exact ⟨es, clock, ks, by rw [Below.heap_alloc _ _ _ hl]; exact h1, h2⟩
      obtain ⟨es, clock, hrun, hs2⟩ := hset'.step m hm
      clear hset hset' hm
      go_wp2
      go_roundw
      case rel => exact ⟨k + 1, by omega, by go_num, below_setMap (hbw.alloc hbs _) (Nat.le_refl _) _, hs2⟩
      case measure => simp [intOf]; omega
    · obtain ⟨es, clock, ks, h1, h2, h3, h4, h5⟩ := hset.has
      have hlen : ∀ ty, (Builtin.len_ #[180] ty #[.map (some w.heap.size)]).run Tryz.prog wr = .ok (.int .i64 es.size) wr := by
        intro ty
        simp [Builtin.len_, run_underlying Tryz.under180, MapKept.run_getObj_map h1, goInt, Result.andThen]
      go_wp2
      go_ret
      refine ⟨retB ?_, hbw⟩
      have hes : es.size = ks.length := by simpa using congrArg List.length h2
      obtain rfl : k = xs.length := by omega
      rw [List.take_length] at h5
      rw [Bool.eq_iff_iff, ← h5, hes]
      simp
end Go.Proofs.YtijpgamdpcgneaaGreat
