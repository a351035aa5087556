import Derived.Test.YtijpgamdpcgneaaGreatQ
namespace Go.Proofs.YtijpgamdpcgneaaGreat
open Go.RowKit Go.MapKept

/-- The program's shelf at block a, all of it in blocks of F. -/
def PSh (w : World) (F : Nat → Prop) (a : Nat) (ents : List En) : Prop :=
  ∃ (mb : Nat) (es : Array MapEntry) (ebs nbs : List Nat),
    w.heap[a]? = some (.cells #[.map (some mb)] 82 (0, 0)) ∧ w.heap[mb]? = some (.map es ents.length) ∧ es.size = ents.length ∧ ebs.length = ents.length ∧ nbs.length = ents.length ∧ F a ∧ F mb ∧ ebs.Nodup ∧
    ∀ (i : Nat) (e : En) (eb nb : Nat), ents[i]? = some e → ebs[i]? = some eb → nbs[i]? = some nb →
      es[i]? = some { key := mv e.m, val := .pointer (some ⟨eb, 0, none⟩), born := i } ∧
      w.heap[eb]? = some (.cells #[.slice (some ⟨nb, 0, none⟩) e.needs.length e.needs.length, .bool e.ret] 84 (0, 0)) ∧ Row w nb 78 e.needs e.needs.length ∧ F eb ∧ F nb

theorem PSh.of_blocks {w w' : World} {F : Nat → Prop} {a : Nat} {ents : List En} (h : PSh w F a ents) (hb : ∀ k, F k → w'.heap[k]? = w.heap[k]?) : PSh w' F a ents := by
  obtain ⟨mb, es, ebs, nbs, h1, h2, h3, h4, h5, h6, h7, h8, h9⟩ := h
  refine ⟨mb, es, ebs, nbs, (hb _ h6).trans h1, (hb _ h7).trans h2, h3, h4, h5, h6, h7, h8, ?_⟩
  intro i e eb nb hi he hn
  obtain ⟨g1, g2, g3, g4, g5⟩ := h9 i e eb nb hi he hn
  exact ⟨g1, (hb _ g4).trans g2, g3.of_block (hb _ g5), g4, g5⟩

theorem PSh.mono {w : World} {F F' : Nat → Prop} {a : Nat} {ents : List En} (h : PSh w F a ents) (hf : ∀ k, F k → F' k) : PSh w F' a ents := by
  obtain ⟨mb, es, ebs, nbs, h1, h2, h3, h4, h5, h6, h7, h8, h9⟩ := h
  refine ⟨mb, es, ebs, nbs, h1, h2, h3, h4, h5, hf _ h6, hf _ h7, h8, ?_⟩
  intro i e eb nb hi he hn
  obtain ⟨g1, g2, g3, g4, g5⟩ := h9 i e eb nb hi he hn
  exact ⟨g1, g2, g3, hf _ g4, hf _ g5⟩

theorem idxE_lt {ents : List En} {m : Mo} {i : Nat} (h : idxE ents m = some i) : i < ents.length := (List.findIdx?_eq_some_iff_getElem.1 h).1

theorem PSh.keys {w : World} {F : Nat → Prop} {a : Nat} {ents : List En} (h : PSh w F a ents) : ∃ (mb : Nat) (es : Array MapEntry), w.heap[a]? = some (.cells #[.map (some mb)] 82 (0, 0)) ∧ w.heap[mb]? = some (.map es ents.length) ∧ es.size = ents.length ∧ F a ∧ F mb ∧ es.toList.map (·.key) = (ents.map (·.m)).map mv := by
  obtain ⟨mb, es, ebs, nbs, h1, h2, h3, h4, h5, h6, h7, h8, h9⟩ := h
  refine ⟨mb, es, h1, h2, h3, h6, h7, ?_⟩
  apply List.ext_getElem?
  intro i
  by_cases hi : i < ents.length
  · have := (h9 i ents[i] ebs[i] nbs[i] (List.getElem?_eq_getElem hi) (List.getElem?_eq_getElem (by omega)) (List.getElem?_eq_getElem (by omega))).1
    simp [this, List.getElem?_eq_getElem hi]
  · rw [List.getElem?_eq_none (by simp; omega), List.getElem?_eq_none (by simp; omega)]

/-- What a look-up tells, in whatever world that has the map as it is. -/
theorem PSh.look {w : World} {F : Nat → Prop} {a : Nat} {ents : List En} (h : PSh w F a ents) (m : Mo) : ∃ mb, w.heap[a]? = some (.cells #[.map (some mb)] 82 (0, 0)) ∧ F a ∧ F mb ∧
    ((idxE ents m = none ∧ ∀ W : World, W.heap[mb]? = w.heap[mb]? → (Instr.lookup 80 (.map (some mb)) (.agg #[.string m.1, .int .i64 m.2]) false).run Tryz.prog W = .ok (.pointer none) W) ∨
     ∃ i e eb nb, idxE ents m = some i ∧ ents[i]? = some e ∧ w.heap[eb]? = some (.cells #[.slice (some ⟨nb, 0, none⟩) e.needs.length e.needs.length, .bool e.ret] 84 (0, 0)) ∧ Row w nb 78 e.needs e.needs.length ∧ F eb ∧ F nb ∧
       ∀ W : World, W.heap[mb]? = w.heap[mb]? → (Instr.lookup 80 (.map (some mb)) (.agg #[.string m.1, .int .i64 m.2]) false).run Tryz.prog W = .ok (.pointer (some ⟨eb, 0, none⟩)) W) := by
  obtain ⟨mb', es', k1, k2, k3, _, _, k6⟩ := h.keys
  obtain ⟨mb, es, ebs, nbs, h1, h2, h3, h4, h5, h6, h7, h8, h9⟩ := h
  obtain rfl : mb' = mb := by rw [h1] at k1; cases k1; rfl
  obtain rfl : es' = es := by rw [h2] at k2; cases k2; rfl
  have hidx : (ents.map (·.m)).findIdx? (fun k => eqM k m) = idxE ents m := by
    rw [List.findIdx?_map]; rfl
  have hr := fun (W : World) (hW : W.heap[mb']? = w.heap[mb']?) => run_lookup52 W mb' es' _ (hW.trans h2) _ k6 m
  rw [hidx] at hr
  refine ⟨mb', h1, h6, h7, ?_⟩
  cases hi : idxE ents m with
  | none =>
    rw [hi] at hr
    exact Or.inl ⟨rfl, hr⟩
  | some i =>
    rw [hi] at hr
    have hlt := idxE_lt hi
    obtain ⟨g1, g2, g3, g4, g5⟩ := h9 i ents[i] ebs[i] nbs[i] (List.getElem?_eq_getElem hlt) (List.getElem?_eq_getElem (by omega)) (List.getElem?_eq_getElem (by omega))
    refine Or.inr ⟨i, ents[i], ebs[i], nbs[i], rfl, List.getElem?_eq_getElem hlt, g2, g3, g4, g5, ?_⟩
    intro W hW
    have := hr W hW
    simpa [g1] using this

set_option maxRecDepth 20000 in
set_option maxHeartbeats 1000000 in
theorem New_calls (w : World) :
    Calls Tryz.prog 32 #[] w fun e w' => e = .returned (.pointer (some ⟨w.heap.size + 1, 0, none⟩)) ∧ PSh w' (fun k => w.heap.size ≤ k ∧ k < w'.heap.size) (w.heap.size + 1) [] ∧ Below w.heap.size w w' := by
  have hmm := @run_makeMap Tryz.prog
  go_enter Tryz.func32, Tryz.ntmps32
  go_wp2
  go_ret
  refine ⟨rfl, ⟨w.heap.size, #[], [], [], ?_, ?_, rfl, rfl, rfl, ?_, ?_, List.nodup_nil, ?_⟩, below_two _ _ _⟩
  · have := heap_alloc_new (w.alloc (.map #[] 0)) (.cells #[.map (some w.heap.size)] 82)
    simpa using this
  · rw [Below.heap_alloc _ _ _ (by simp)]
    exact heap_alloc_new w _
  · simp
  · simp
    omega
  · intro i e eb nb hi
    simp at hi

theorem cell_of_block {w : World} {a j : Nat} {c : Array Value} {T : TypeId} {fr : Nat × Nat} (h : w.heap[a]? = some (.cells c T fr)) : w.cell? ⟨a, j, none⟩ = c[j]? := by
  simp [World.cell?, h]

/-- ErrThere, ErrFull. -/
def placeErr (ents : List En) (m : Mo) : Int := if (idxE ents m).isSome then 5 else if 60 ≤ ents.length then 6 else 0

set_option maxRecDepth 20000 in
set_option maxHeartbeats 1000000 in
theorem checkPlace_calls (w : World) (F : Nat → Prop) (a : Nat) (ents : List En) (hl : ents.length ≤ 60) (m : Mo) (h : PSh w F a ents) (hF : ∀ k, F k → k < w.heap.size) :
    Calls Tryz.prog 53 #[.pointer (some ⟨a, 0, none⟩), mv m] w fun e w' => e = .returned (.int .i64 (placeErr ents m)) ∧ Below w.heap.size w w' := by
  unfold mv
  obtain ⟨mb, es, _, hm, hsz, _, _, _⟩ := h.keys
  obtain ⟨mb', ha, hFa, hFm, hlook⟩ := h.look m
  obtain rfl : mb' = mb := by rename_i h1 _ _ _; rw [ha] at h1; cases h1; rfl
  have hal := hF a hFa
  have hml := hF mb' hFm
  have c0 : w.cell? ⟨a, 0, none⟩ = some (.map (some mb')) := by rw [cell_of_block ha]; rfl
  have c0' : (w.alloc (.cells #[.string m.1, .int .i64 m.2] 78)).cell? ⟨a, 0, none⟩ = some (.map (some mb')) := by
    rw [World.cell?_of_block (w := w) (Below.heap_alloc _ _ _ hal)]; exact c0
  have hm' : ∀ n, ((w.alloc (.cells #[.string m.1, .int .i64 m.2] 78)).drewN n).heap[mb']? = some (.map es ents.length) := fun n => (Below.heap_alloc _ _ _ hml).trans hm
  have hlen : ∀ n ty, (Builtin.len_ #[80] ty #[.map (some mb')]).run Tryz.prog ((w.alloc (.cells #[.string m.1, .int .i64 m.2] 78)).drewN n) = .ok (.int .i64 ents.length) ((w.alloc (.cells #[.string m.1, .int .i64 m.2] 78)).drewN n) := by
    intro n ty
    simp [Builtin.len_, run_underlying Tryz.under80, MapKept.run_getObj_map (hm' n), goInt, Result.andThen, hsz]
  clear h hm' hm c0
  rcases hlook with ⟨hi, hr⟩ | ⟨i, e, eb, nb, hi, he, heb, hrow, hFe, hFn, hr⟩
  · have hr' := fun n => hr ((w.alloc (.cells #[.string m.1, .int .i64 m.2] 78)).drewN n) (Below.heap_alloc _ _ _ hml)
    have HI := hide hi
    have HH := hide ha
    clear hr hi ha
    go_enter Tryz.func53, Tryz.ntmps53
    go_wp2
    go_quiet (fail)
    go_wp2
    · go_ret
      refine ⟨retI ?_, below_drewN (below_one _ _) _⟩
      simp only [placeErr, unhide HI]
      rw [if_neg (by simp), if_pos (by omega)]
    · go_ret
      refine ⟨retI ?_, below_drewN (below_one _ _) _⟩
      simp only [placeErr, unhide HI]
      rw [if_neg (by simp), if_neg (by omega)]
  · have hr' := fun n => hr ((w.alloc (.cells #[.string m.1, .int .i64 m.2] 78)).drewN n) (Below.heap_alloc _ _ _ hml)
    have HI := hide hi
    have HH := hide ha
    clear hr hi he heb hrow ha
    go_enter Tryz.func53, Tryz.ntmps53
    go_wp2
    go_quiet (fail)
    go_wp2
    go_ret
    refine ⟨retI ?_, below_drewN (below_one _ _) _⟩
    simp [placeErr, unhide HI]
end Go.Proofs.YtijpgamdpcgneaaGreat
