import Derived.Test.YtijpgamdpcgneaaGreatX
namespace Go.Proofs.YtijpgamdpcgneaaGreat
open Go.RowKit Go.MapKept

/-- The cells of the document's list of entries; us: the slices of their needs. -/
def cellsE : List En → List Value → List Value
  | e :: r, u :: us => .string e.m.1 :: .int .i64 e.m.2 :: u :: .bool e.ret :: cellsE r us
  | _, _ => []

theorem cellsE_length (ents : List En) (us : List Value) (h : us.length = ents.length) : (cellsE ents us).length = ents.length * 4 := by
  induction ents generalizing us with
  | nil => cases us <;> simp_all [cellsE]
  | cons e r ih =>
    cases us with
    | nil => simp at h
    | cons u us => simp [cellsE, ih us (by simpa using h)]; omega

theorem cellsE_append (ents : List En) (us : List Value) (h : us.length = ents.length) (e : En) (u : Value) : cellsE (ents ++ [e]) (us ++ [u]) = cellsE ents us ++ [.string e.m.1, .int .i64 e.m.2, u, .bool e.ret] := by
  induction ents generalizing us with
  | nil => cases us <;> simp_all [cellsE]
  | cons x r ih =>
    cases us with
    | nil => simp at h
    | cons y us => simp [cellsE, ih us (by simpa using h)]

theorem cellsE_at (ents : List En) (us : List Value) (i : Nat) (e : En) (u : Value) (h : ents[i]? = some e) (hu : us[i]? = some u) :
    (cellsE ents us)[i * 4]? = some (.string e.m.1) ∧ (cellsE ents us)[i * 4 + 1]? = some (.int .i64 e.m.2) ∧ (cellsE ents us)[i * 4 + 2]? = some u ∧ (cellsE ents us)[i * 4 + 3]? = some (.bool e.ret) := by
  induction ents generalizing us i with
  | nil => simp at h
  | cons x r ih =>
    cases us with
    | nil => simp at hu
    | cons y us =>
      cases i with
      | zero => simp at h hu; subst h hu; simp [cellsE]
      | succ i =>
        have := ih us i (by simpa using h) (by simpa using hu)
        rw [show (i + 1) * 4 = i * 4 + 1 + 1 + 1 + 1 by omega]
        simpa [cellsE] using this

theorem cellsE_set (ents : List En) (us : List Value) (i : Nat) (e : En) (h : ents[i]? = some e) (hl : us.length = ents.length) :
    cellsE (ents.set i { e with ret := true }) us = (cellsE ents us).set (i * 4 + 3) (.bool true) := by
  induction ents generalizing us i with
  | nil => simp at h
  | cons x r ih =>
    cases us with
    | nil => simp at hl
    | cons y us =>
      cases i with
      | zero => simp at h; subst h; simp [cellsE]
      | succ i =>
        have := ih us i (by simpa using h) (by simpa using hl)
        rw [show (i + 1) * 4 + 3 = (i * 4 + 3) + 1 + 1 + 1 + 1 by omega]
        simp [cellsE, this]

/-- The document's shelf at block a, all of it in blocks of F. -/
def RSh (w : World) (F : Nat → Prop) (a : Nat) (ents : List En) : Prop :=
  ∃ (v : Value) (us : List Value), w.heap[a]? = some (.cells #[v] 146 (0, 0)) ∧ F a ∧ us.length = ents.length ∧ Own w 184 4 v ents.length (cellsE ents us) ∧ (∀ g, v.ownBlock = some g → F g) ∧
    ∀ (i : Nat) (e : En) (u : Value), ents[i]? = some e → us[i]? = some u → Own w 33 2 u e.needs.length (cellsL e.needs) ∧ ∀ g, u.ownBlock = some g → F g

theorem RSh.of_blocks {w w' : World} {F : Nat → Prop} {a : Nat} {ents : List En} (h : RSh w F a ents) (hb : ∀ k, F k → w'.heap[k]? = w.heap[k]?) : RSh w' F a ents := by
  obtain ⟨v, us, h1, h2, h3, h4, h5, h6⟩ := h
  refine ⟨v, us, (hb _ h2).trans h1, h2, h3, h4.of_block (fun g hg => hb g (h5 g hg)), h5, ?_⟩
  intro i e u hi hu
  obtain ⟨g1, g2⟩ := h6 i e u hi hu
  exact ⟨g1.of_block (fun g hg => hb g (g2 g hg)), g2⟩

theorem RSh.mono {w : World} {F F' : Nat → Prop} {a : Nat} {ents : List En} (h : RSh w F a ents) (hf : ∀ k, F k → F' k) : RSh w F' a ents := by
  obtain ⟨v, us, h1, h2, h3, h4, h5, h6⟩ := h
  refine ⟨v, us, h1, hf _ h2, h3, h4, fun g hg => hf _ (h5 g hg), ?_⟩
  intro i e u hi hu
  obtain ⟨g1, g2⟩ := h6 i e u hi hu
  exact ⟨g1, fun g hg => hf _ (g2 g hg)⟩

set_option maxRecDepth 20000 in
set_option maxHeartbeats 1000000 in
theorem RNew_calls (w : World) :
    Calls Tryz.prog 47 #[] w fun e w' => e = .returned (.pointer (some ⟨w.heap.size, 0, none⟩)) ∧ RSh w' (fun k => w.heap.size ≤ k ∧ k < w'.heap.size) w.heap.size [] ∧ Below w.heap.size w w' := by
  go_enter Tryz.func47, Tryz.ntmps47
  go_wp2
  go_ret
  refine ⟨rfl, ⟨.slice none 0 0, [], heap_alloc_new w _, by simp, rfl, Or.inl ⟨rfl, rfl, rfl⟩, (fun g hg => by cases hg), ?_⟩, below_one _ _⟩
  intro i e u hi
  simp at hi

def plcE (ents : List En) (m : Mo) : Int := match idxE ents m with
  | some i => i
  | none => -1

theorem idxE_of {ents : List En} {m : Mo} {k : Nat} {e : En} (hk : ents[k]? = some e) (hh : eqM e.m m = true) (hlo : ∀ (j : Nat) e', ents[j]? = some e' → j < k → eqM e'.m m = false) : idxE ents m = some k := by
  obtain ⟨h1, h2⟩ := List.getElem?_eq_some_iff.1 hk
  rw [idxE, List.findIdx?_eq_some_iff_getElem]
  refine ⟨h1, by rw [h2]; exact hh, ?_⟩
  intro j hj
  rw [hlo j _ (List.getElem?_eq_getElem (by omega)) hj]
  simp

theorem idxE_none {ents : List En} {m : Mo} (hlo : ∀ (j : Nat) e', ents[j]? = some e' → eqM e'.m m = false) : idxE ents m = none := by
  rw [idxE, List.findIdx?_eq_none_iff]
  intro e he
  obtain ⟨j, hj, rfl⟩ := List.getElem_of_mem he
  exact hlo j _ (List.getElem?_eq_getElem hj)

set_option maxRecDepth 20000 in
set_option maxHeartbeats 1000000 in
theorem place_calls (w : World) (F : Nat → Prop) (a : Nat) (ents : List En) (hl : ents.length ≤ 60) (m : Mo) (h : RSh w F a ents) (hF : ∀ k, F k → k < w.heap.size) :
    Calls Tryz.prog 116 #[.pointer (some ⟨a, 0, none⟩), mv m] w fun e w' => e = .returned (.int .i64 (plcE ents m)) ∧ Below w.heap.size w w' := by
  unfold mv
  obtain ⟨v, us, h1, h2, h3, h4, h5, h6⟩ := h
  have hal := hF a h2
  have c0 : w.cell? ⟨a, 0, none⟩ = some v := by rw [cell_of_block h1]; rfl
  clear h1 h6
  obtain ⟨r, hr⟩ : ∃ r, plcE ents m = r := ⟨_, rfl⟩
  rw [hr]
  have HR := hide hr
  clear hr
  rcases h4 with ⟨rfl, hn, _⟩ | ⟨g, cp, rfl, hrow⟩
  · have hnil : ents = [] := List.eq_nil_of_length_eq_zero hn
    have c0' : (w.alloc (.cells #[.string m.1, .int .i64 m.2] 33)).cell? ⟨a, 0, none⟩ = some (.slice none 0 0) := by
      rw [World.cell?_of_block (w := w) (Below.heap_alloc _ _ _ hal)]; exact c0
    clear h5 c0 hn
    go_enter Tryz.func116, Tryz.ntmps116
    go_wp2
    go_loop [5] (fun i => i = .int .i64 0) (fun _ => 0)
    case atStart => rfl
    case round =>
      subst hrel
      go_wp2
      go_ret
      refine ⟨retI ?_, below_one _ _⟩
      rw [← unhide HR, hnil]
      rfl
  · have hgl : g < w.heap.size := hF g (h5 g rfl)
    have HROW := hide hrow
    clear hrow h5
    go_enter Tryz.func116, Tryz.ntmps116
    go_wp2
    go_loopw [5] (fun i wr => ∃ k : Nat, k ≤ ents.length ∧ i = .int .i64 k ∧ Below w.heap.size w wr ∧ wr.cell? ⟨w.heap.size, 0, none⟩ = some (.string m.1) ∧ wr.cell? ⟨w.heap.size, 1, none⟩ = some (.int .i64 m.2) ∧ (∀ (j : Nat) e', ents[j]? = some e' → j < k → eqM e'.m m = false)) (fun i _ => ents.length - (intOf i).toNat)
    case atStart => exact ⟨0, Nat.zero_le _, rfl, below_one _ _, by simp [go_sem], by simp [go_sem], fun j _ _ h => by omega⟩
    case round =>
      obtain ⟨k, hk, rfl, hbw, p0, p1, hall⟩ := hrel
      have HA := hide hall
      clear hall
      have cA := (hbw.cell (p := ⟨a, 0, none⟩) hal).trans c0
      by_cases hlt : k < ents.length
      · obtain ⟨e, he⟩ : ∃ e, ents[k]? = some e := ⟨_, List.getElem?_eq_getElem hlt⟩
        obtain ⟨u, hu⟩ : ∃ u, us[k]? = some u := ⟨_, List.getElem?_eq_getElem (by omega)⟩
        obtain ⟨t0, t1, _, _⟩ := cellsE_at ents us k e u he hu
        have d0 := (hbw.cell (p := ⟨g, k * 4, none⟩) hgl).trans ((unhide HROW).cell t0)
        have d1 := (hbw.cell (p := ⟨g, k * 4 + 1, none⟩) hgl).trans ((unhide HROW).cell t1)
        have HE := hide he
        clear t0 t1 he hu
        have heq := fun W => run_eql35 e.m m W
        have hgd := fun W => run_guard35 .eql (.tmp 22) (.tmp 23) #[.string e.m.1, .int .i64 e.m.2] #[.string m.1, .int .i64 m.2] W
        obtain ⟨q, hq⟩ : ∃ q, eqM e.m m = q := ⟨_, rfl⟩
        rw [hq] at heq
        have HQ := hide hq
        clear hq
        go_wp2
        go_quiet (fail)
        cases q
        · go_wp2
          go_roundw
          case rel =>
            refine ⟨k + 1, by omega, by go_num, below_drewN hbw _, p0, p1, ?_⟩
            intro j e' hj hjk
            by_cases hjk' : j < k
            · exact unhide HA j e' hj hjk'
            · obtain rfl : j = k := by omega
              rw [unhide HE] at hj
              cases hj
              exact unhide HQ
          case measure => simp [intOf]; omega
        · go_wp2
          go_ret
          refine ⟨retI ?_, below_drewN hbw _⟩
          rw [← unhide HR, plcE, idxE_of (unhide HE) (unhide HQ) (unhide HA)]
      · go_wp2
        go_ret
        refine ⟨retI ?_, hbw⟩
        rw [← unhide HR, plcE, idxE_none (fun j e' hj => unhide HA j e' hj (by have := (List.getElem?_eq_some_iff.1 hj).1; omega))]
end Go.Proofs.YtijpgamdpcgneaaGreat
