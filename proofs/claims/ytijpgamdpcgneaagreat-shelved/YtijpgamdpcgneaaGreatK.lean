import Derived.Test.YtijpgamdpcgneaaGreatG
namespace Go.Proofs.YtijpgamdpcgneaaGreat
open Go.RowKit

/-- A row of the heap (block g, elements of type T, cap of them) that begins with the modules xs. -/
def Row (w : World) (g : Nat) (T : TypeId) (xs : List Mo) (cap : Nat) : Prop :=
  ∃ arr : Array Value, w.heap[g]? = some (.cells arr T (0, 0)) ∧ arr.size = cap * 2 ∧ xs.length ≤ cap ∧
    ∀ (i : Nat) (m : Mo), xs[i]? = some m → arr[i * 2]? = some (.string m.1) ∧ arr[i * 2 + 1]? = some (.int .i64 m.2)

theorem Row.lt {w : World} {g : Nat} {T : TypeId} {xs : List Mo} {cap : Nat} (h : Row w g T xs cap) : g < w.heap.size := by
  obtain ⟨arr, h1, _⟩ := h
  exact (Array.getElem?_eq_some_iff.1 h1).1

theorem Row.lst {w : World} {g : Nat} {T : TypeId} {xs : List Mo} {cap : Nat} (h : Row w g T xs cap) : LstAt w (.slice (some ⟨g, 0, none⟩) xs.length cap) xs := by
  obtain ⟨arr, h1, h2, h3, h4⟩ := h
  refine Or.inr ⟨g, 0, cap, rfl, h3, fun i m hi => ?_⟩
  simp only [World.cell?, h1]
  simpa using h4 i m hi

theorem Row.of_block {w w' : World} {g : Nat} {T : TypeId} {xs : List Mo} {cap : Nat} (h : Row w g T xs cap) (hb : w'.heap[g]? = w.heap[g]?) : Row w' g T xs cap := by
  obtain ⟨arr, h1, h2⟩ := h
  exact ⟨arr, hb.trans h1, h2⟩

theorem Row.below {w w' : World} {g B : Nat} {T : TypeId} {xs : List Mo} {cap : Nat} (h : Row w g T xs cap) (hb : Below B w w') (hg : g < B) : Row w' g T xs cap :=
  h.of_block (hb.block g hg)

theorem Row.alloc {w : World} {g : Nat} {T : TypeId} {xs : List Mo} {cap : Nat} (h : Row w g T xs cap) (o : Obj) : Row (w.alloc o) g T xs cap :=
  h.of_block (Below.heap_alloc _ _ _ h.lt)

theorem Row.cell {w : World} {g : Nat} {T : TypeId} {xs : List Mo} {cap : Nat} (h : Row w g T xs cap) {j : Nat} (hj : j < cap * 2) : ∃ v, w.cell? ⟨g, j, none⟩ = some v := by
  obtain ⟨arr, h1, h2, h3, h4⟩ := h
  refine ⟨arr[j]'(by omega), ?_⟩
  simp only [World.cell?, h1]
  simp [show j < arr.size by omega]

theorem Row.frozen {w : World} {g : Nat} {T : TypeId} {xs : List Mo} {cap : Nat} (h : Row w g T xs cap) (j : Nat) : w.frozen? ⟨g, j, none⟩ = false := by
  obtain ⟨arr, h1, h2, h3, h4⟩ := h
  simp [World.frozen?, h1]

theorem heap_setCell_same (w : World) (g j : Nat) (v : Value) (arr : Array Value) (T : TypeId) (fr : Nat × Nat) (h : w.heap[g]? = some (.cells arr T fr)) :
    (w.setCell ⟨g, j, none⟩ v).heap[g]? = some (.cells (arr.setIfInBounds j v) T fr) := by
  simp [World.setCell, Array.getElem?_modify, h]

/-- The next element is stored. -/
theorem Row.put {w : World} {g : Nat} {T : TypeId} {xs : List Mo} {cap : Nat} (h : Row w g T xs cap) (m : Mo) (hc : xs.length < cap) :
    Row ((w.setCell ⟨g, xs.length * 2, none⟩ (.string m.1)).setCell ⟨g, xs.length * 2 + 1, none⟩ (.int .i64 m.2)) g T (xs ++ [m]) cap := by
  obtain ⟨arr, h1, h2, h3, h4⟩ := h
  refine ⟨_, heap_setCell_same _ _ _ _ _ _ _ (heap_setCell_same _ _ _ _ _ _ _ h1), by simp [h2], by simp; omega, ?_⟩
  intro i x hi
  by_cases hlt : i < xs.length
  · rw [List.getElem?_append_left hlt] at hi
    have := h4 i x hi
    simp only [Array.getElem?_setIfInBounds, Array.size_setIfInBounds]
    rw [if_neg (by omega), if_neg (by omega), if_neg (by omega), if_neg (by omega)]
    exact this
  · obtain rfl : i = xs.length := by
      have := (List.getElem?_eq_some_iff.1 hi).1
      simp at this
      omega
    simp at hi
    subst hi
    simp only [Array.getElem?_setIfInBounds, Array.size_setIfInBounds]
    rw [if_neg (by omega), if_pos trivial, if_pos (by omega), if_pos trivial, if_pos (by omega)]
    exact ⟨rfl, rfl⟩

/-- An element is stored anew. -/
theorem Row.set {w : World} {g : Nat} {T : TypeId} {xs : List Mo} {cap : Nat} (h : Row w g T xs cap) (k : Nat) (m : Mo) (hk : k < cap) :
    Row ((w.setCell ⟨g, k * 2, none⟩ (.string m.1)).setCell ⟨g, k * 2 + 1, none⟩ (.int .i64 m.2)) g T (xs.set k m) cap := by
  obtain ⟨arr, h1, h2, h3, h4⟩ := h
  refine ⟨_, heap_setCell_same _ _ _ _ _ _ _ (heap_setCell_same _ _ _ _ _ _ _ h1), by simp [h2], by simpa using h3, ?_⟩
  intro i x hi
  rw [List.getElem?_set] at hi
  by_cases hik : k = i
  · subst hik
    rw [if_pos rfl] at hi
    split at hi
    · cases hi
      simp only [Array.getElem?_setIfInBounds, Array.size_setIfInBounds]
      rw [if_neg (by omega), if_pos trivial, if_pos (by omega), if_pos trivial, if_pos (by omega)]
      exact ⟨rfl, rfl⟩
    · cases hi
  · rw [if_neg hik] at hi
    have := h4 i x hi
    simp only [Array.getElem?_setIfInBounds, Array.size_setIfInBounds]
    rw [if_neg (by omega), if_neg (by omega), if_neg (by omega), if_neg (by omega)]
    exact this

theorem Tryz.info78 : (Tryz.prog.info? 78).map (fun i => (i.zero, i.size, i.bytes)) = some (some (Value.agg #[.string ⟨#[]⟩, .int .i64 0]), 2, 24) := by kernel_rfl
theorem Tryz.info33 : (Tryz.prog.info? 33).map (fun i => (i.zero, i.size, i.bytes)) = some (some (Value.agg #[.string ⟨#[]⟩, .int .i64 0]), 2, 24) := by kernel_rfl

theorem run_makeRow (t e : TypeId) (ht : Tryz.prog.underlying t = some (.slice e)) (he : (Tryz.prog.info? e).map (fun i => (i.zero, i.size, i.bytes)) = some (some (Value.agg #[.string ⟨#[]⟩, .int .i64 0]), 2, 24)) (n : Nat) (hn : n * 24 ≤ 140737488355328) :
    ∃ M : Array Value, M.size = n * 2 ∧ ∀ W : World, (Instr.makeSlice t (.int .i64 (n : Int)) (.int .i64 (n : Int))).run Tryz.prog W = .ok (.slice (some ⟨W.heap.size, 0, none⟩) n n) (W.alloc (.cells M e)) := by
  obtain ⟨i0, hi, hz0, hz1, hz2⟩ := info_parts he
  refine ⟨madeCells (Value.agg #[.string ⟨#[]⟩, .int .i64 0]).cells (((n : Nat) : Int).toNat * i0.size), by rw [size_madeCells, hz1]; simp, fun W => ?_⟩
  have h := run_make (P := Tryz.prog) W t e i0 _ ht hi hz0 .i64 .i64 (n : Int) (n : Int) (by omega) (by omega) (by rw [hz2]; omega) (by omega)
  simpa using h

theorem Row.made (w : World) (M : Array Value) (T : TypeId) (n : Nat) (hM : M.size = n * 2) : Row (w.alloc (.cells M T)) w.heap.size T [] n :=
  ⟨M, heap_alloc_new w _, hM, by simp, fun i m hi => by simp at hi⟩

set_option maxRecDepth 20000 in
set_option maxHeartbeats 1000000 in
theorem FromPlain_calls (v : Value) (xs : List Mo) (hx : xs.length * 24 ≤ 140737488355328) (w : World) (h : LstAt w v xs) :
    Calls Tryz.prog 52 #[v] w fun e w' => e = .returned (.slice (some ⟨w.heap.size, 0, none⟩) xs.length xs.length) ∧ Row w' w.heap.size 78 xs xs.length ∧ Below w.heap.size w w' := by
  obtain ⟨a, cap, rfl⟩ := h.length
  obtain ⟨M, hM, hmk0⟩ := run_makeRow 70 78 Tryz.underlying70 Tryz.info78 xs.length hx
  have H := hide h
  clear h
  have hmk := hmk0 w
  clear hmk0
  have hr0 := hide (Row.made w M 78 xs.length hM)
  clear hM
  go_enter Tryz.func52, Tryz.ntmps52
  go_wp2
  go_loopw [11] (fun i wr => ∃ k : Nat, k ≤ xs.length ∧ i = .int .i64 k ∧ Below w.heap.size w wr ∧ Row wr w.heap.size 78 (xs.take k) xs.length) (fun i _ => xs.length - (intOf i).toNat)
  case atStart => exact ⟨0, Nat.zero_le _, rfl, below_one _ _, unhide hr0⟩
  case round =>
    clear hmk hr0
    obtain ⟨k, hk, rfl, hbw, hrow⟩ := hrel
    by_cases hlt : k < xs.length
    · obtain ⟨m, hm⟩ : ∃ m, xs[k]? = some m := ⟨_, List.getElem?_eq_getElem hlt⟩
      obtain ⟨b, off, cap', he, hb, hc⟩ := (unhide H).at (by intro e; subst e; simp at hlt)
      cases he
      have c0 := (hbw.cell (p := ⟨b, off + k * 2, none⟩) hb).trans (hc k m hm).1
      have c1 := (hbw.cell (p := ⟨b, off + k * 2 + 1, none⟩) hb).trans (hc k m hm).2
      clear hc
      have hrow' := hrow.alloc (.cells #[.string m.1, .int .i64 m.2] 33)
      obtain ⟨v0, g0⟩ := hrow'.cell (j := k * 2) (by omega)
      obtain ⟨v1, g1⟩ := hrow'.cell (j := k * 2 + 1) (by omega)
      have f0 := hrow'.frozen (k * 2)
      have f1 := hrow'.frozen (k * 2 + 1)
      have R := hide (hrow'.put m (by simp; omega))
      have hbs := hbw.size
      have HM := hide hm
      clear hrow hrow' hm
      go_wp2
      go_roundw
      case rel =>
        refine ⟨k + 1, by omega, by go_num, ?_, ?_⟩
        · exact ((hbw.alloc hbs _).setCell (Nat.le_refl _) _).setCell (Nat.le_refl _) _
        · have R' := unhide R
          rw [List.length_take, Nat.min_eq_left (by omega)] at R'
          rw [List.take_add_one, unhide HM]
          exact R'
      case measure => simp [intOf]; omega
    · go_wp2
      go_ret
      rw [List.take_of_length_le (by omega)] at hrow
      exact ⟨rfl, hrow, hbw⟩
end Go.Proofs.YtijpgamdpcgneaaGreat
