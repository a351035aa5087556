import Derived.Test.YtijpgamdpcgneaaGreatS
namespace Go.Proofs.YtijpgamdpcgneaaGreat
open Go.RowKit Go.MapKept

/-- A list that came out: nil, or at the head of a row that is not older than B. -/
def OutL (w : World) (B : Nat) (v : Value) (xs : List Mo) : Prop :=
  (v = .slice none 0 0 ∧ xs = []) ∨ ∃ g cap, v = .slice (some ⟨g, 0, none⟩) xs.length cap ∧ B ≤ g ∧ cap ≤ maxLen ∧ Row w g 33 xs cap

def needsE (ents : List En) (m : Mo) : Int × List Mo := match idxE ents m with
  | none => (7, [])
  | some i => match ents[i]? with
    | none => (7, [])
    | some e => (0, e.needs)

set_option maxRecDepth 20000 in
set_option maxHeartbeats 1000000 in
theorem Needs_calls (w : World) (F : Nat → Prop) (a : Nat) (ents : List En) (hN : ∀ e ∈ ents, e.needs.length ≤ 6) (m : Mo) (h : PSh w F a ents) (hF : ∀ k, F k → k < w.heap.size) :
    Calls Tryz.prog 18 #[.pointer (some ⟨a, 0, none⟩), mv m] w fun e w' => (∃ v, e = .returned (.tuple #[v, .int .i64 (needsE ents m).1]) ∧ OutL w' w.heap.size v (needsE ents m).2) ∧ Below w.heap.size w w' := by
  unfold mv
  obtain ⟨mb, ha, hFa, hFm, hlook⟩ := h.look m
  have hal := hF a hFa
  have hml := hF mb hFm
  have c0 : (w.alloc (.cells #[.string m.1, .int .i64 m.2] 33)).cell? ⟨a, 0, none⟩ = some (.map (some mb)) := by
    rw [World.cell?_of_block (w := w) (Below.heap_alloc _ _ _ hal), cell_of_block ha]; rfl
  have hB := fun n => below_drewN (below_one w (.cells #[.string m.1, .int .i64 m.2] 33)) n
  have HB := hide hB
  clear h hB
  rcases hlook with ⟨hi, hr⟩ | ⟨i, e, eb, nb, hi, he, heb, hrow, hFe, hFn, hr⟩
  · have hr' := fun n => hr ((w.alloc (.cells #[.string m.1, .int .i64 m.2] 33)).drewN n) (Below.heap_alloc _ _ _ hml)
    have HI := hide hi
    clear hr hi ha
    obtain ⟨R, hR⟩ : ∃ R, needsE ents m = R := ⟨_, rfl⟩
    rw [hR]
    have HR : Hid (R = (7, [])) := by show R = _; rw [← hR, needsE, unhide HI]
    clear hR
    go_enter Tryz.func18, Tryz.ntmps18
    go_wp2
    go_quiet (fail)
    go_wp2
    go_ret2
    rw [unhide HR]
    exact ⟨⟨_, rfl, Or.inl ⟨rfl, rfl⟩⟩, unhide HB _⟩
  · have hr' := fun n => hr ((w.alloc (.cells #[.string m.1, .int .i64 m.2] 33)).drewN n) (Below.heap_alloc _ _ _ hml)
    have hel := hF eb hFe
    have hnl := hF nb hFn
    have c1 : (w.alloc (.cells #[.string m.1, .int .i64 m.2] 33)).cell? ⟨eb, 0, none⟩ = some (.slice (some ⟨nb, 0, none⟩) e.needs.length e.needs.length) := by
      rw [World.cell?_of_block (w := w) (Below.heap_alloc _ _ _ hel), cell_of_block heb]; rfl
    have hlen := hN e (List.mem_of_getElem? he)
    have cS := fun n => ToPlain_calls (.slice (some ⟨nb, 0, none⟩) e.needs.length e.needs.length) e.needs (by omega) ((w.alloc (.cells #[.string m.1, .int .i64 m.2] 33)).drewN n) (hrow.of_block (w' := (w.alloc (.cells #[.string m.1, .int .i64 m.2] 33)).drewN n) (Below.heap_alloc _ _ _ hnl)).lst
    obtain ⟨R, hR⟩ : ∃ R, needsE ents m = R := ⟨_, rfl⟩
    rw [hR]
    have HR : Hid (R = (0, e.needs)) := by show R = _; rw [← hR, needsE, hi]; simp only [he]
    clear hR hr hi ha he heb hrow
    go_enter Tryz.func18, Tryz.ntmps18
    go_wp2
    go_quiet (fail)
    go_wp2_with (go_at_call 36; refine (cS nq).mono ?_; rintro e W' ⟨rfl, hrow, hb⟩)
    go_ret2
    rw [unhide HR]
    refine ⟨⟨_, rfl, Or.inr ⟨_, _, rfl, ?_, ?_, by simpa using hrow⟩⟩, (unhide HB nq).trans (hb.mono (unhide HB nq).size)⟩
    · omega
    · unfold maxLen; omega
end Go.Proofs.YtijpgamdpcgneaaGreat
