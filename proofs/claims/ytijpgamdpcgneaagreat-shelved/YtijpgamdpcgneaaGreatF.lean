import Derived.Test.YtijpgamdpcgneaaGreatC
import Derived.Test.YtijpgamdpcgneaaGreatE
namespace Go.Proofs.YtijpgamdpcgneaaGreat
open Go.RowKit

/-- A list of modules in memory, to be read: v is the slice. -/
def LstAt (w : World) (v : Value) (xs : List Mo) : Prop :=
  (v = .slice none 0 0 ∧ xs = []) ∨ ∃ b off cap, v = .slice (some ⟨b, off, none⟩) xs.length cap ∧ xs.length ≤ cap ∧
    ∀ (i : Nat) (m : Mo), xs[i]? = some m → w.cell? ⟨b, off + i * 2, none⟩ = some (.string m.1) ∧ w.cell? ⟨b, off + i * 2 + 1, none⟩ = some (.int .i64 m.2)

theorem LstAt.below {B : Nat} {w w' : World} {v : Value} {xs : List Mo} (h : LstAt w v xs) (hb : Below B w w') (hv : ∀ b off l cap, v = .slice (some ⟨b, off, none⟩) l cap → b < B) : LstAt w' v xs := by
  rcases h with h | ⟨b, off, cap, rfl, hc, h⟩
  · exact Or.inl h
  · have := hv b off _ cap rfl
    refine Or.inr ⟨b, off, cap, rfl, hc, fun i m hi => ?_⟩
    rw [hb.cell (p := ⟨b, off + i * 2, none⟩) this, hb.cell (p := ⟨b, off + i * 2 + 1, none⟩) this]
    exact h i m hi

set_option maxRecDepth 20000 in
set_option maxHeartbeats 1000000 in
theorem IndexFunc_path (v : Value) (xs : List Mo) (hx : xs.length ≤ 140737488355328) (w : World) (h : LstAt w v xs) :
    Calls Tryz.prog 112 #[v, .func (.func 72) #[] #[]] w fun e w' => (∃ i : Int, e = .returned (.int .i64 i) ∧ decide (0 ≤ i) = xs.any (fun m => !okPath m.1)) ∧ Below w.heap.size w w' := by
  rcases h with ⟨rfl, rfl⟩ | ⟨b, off, cap, rfl, hcap, hc⟩
  · go_enter Tryz.func112, Tryz.ntmps112
    go_wp2
    go_loop [8] (fun i => i = .int .i64 0) (fun _ => 0)
    case atStart => rfl
    case round =>
      subst hrel
      go_wp2
      go_ret
      exact ⟨⟨_, rfl, by simp⟩, Below.refl _ _⟩
  · have hbw : xs ≠ [] → b < w.heap.size := by
      intro hne
      obtain ⟨m0, hm0⟩ : ∃ m, xs[0]? = some m := by cases xs <;> simp_all
      have := (hc 0 m0 hm0).1
      simp only [World.cell?] at this
      split at this
      · rename_i heq
        exact (Array.getElem?_eq_some_iff.1 heq).1
      · cases this
    go_enter Tryz.func112, Tryz.ntmps112
    go_wp2
    go_loopw [8] (fun i wr => ∃ k : Nat, k ≤ xs.length ∧ i = .int .i64 k ∧ Below w.heap.size w wr ∧ (∀ j m, xs[j]? = some m → j < k → (!okPath m.1) = false)) (fun i _ => xs.length - (intOf i).toNat)
    case atStart => exact ⟨0, Nat.zero_le _, rfl, Below.refl _ _, fun j m _ h => by omega⟩
    case round =>
      obtain ⟨k, hk, rfl, hb, hall⟩ := hrel
      have HA := hide hall
      have HC := hide hc
      have HB := hide hbw
      clear hall hc hbw
      by_cases hlt : k < xs.length
      · have hbl := unhide HB (by intro e; subst e; simp at hlt)
        obtain ⟨m, hm⟩ : ∃ m, xs[k]? = some m := ⟨_, List.getElem?_eq_getElem hlt⟩
        have c0 := (hb.cell (p := ⟨b, off + k * 2, none⟩) hbl).trans (unhide HC k m hm).1
        have c1 := (hb.cell (p := ⟨b, off + k * 2 + 1, none⟩) hbl).trans (unhide HC k m hm).2
        have HM := hide hm
        clear hm
        have cS := lacksPath_calls m wr
        unfold mv at cS
        obtain ⟨q, hq⟩ : ∃ q, (!okPath m.1) = q := ⟨_, rfl⟩
        have HQ := hide hq
        rw [hq] at cS
        clear hq
        cases q
        · go_wp2_with (go_at_call 72; refine cS.mono ?_; rintro e W' ⟨rfl, hb'⟩)
          go_roundw
          case rel =>
            refine ⟨k + 1, by omega, by go_num, hb.trans (hb'.mono hb.size), ?_⟩
            intro j m' h hj
            by_cases hjk : j < k
            · exact unhide HA j m' h hjk
            · obtain rfl : j = k := by omega
              rw [unhide HM] at h
              cases h
              exact unhide HQ
          case measure => simp [intOf]; omega
        · go_wp2_with (go_at_call 72; refine cS.mono ?_; rintro e W' ⟨rfl, hb'⟩)
          go_ret
          refine ⟨⟨_, rfl, ?_⟩, hb.trans (hb'.mono hb.size)⟩
          have hany : xs.any (fun m => !okPath m.1) = true := by
            rw [List.any_eq_true]
            exact ⟨m, List.mem_of_getElem? (unhide HM), unhide HQ⟩
          rw [hany]
          simp
      · go_wp2
        go_ret
        refine ⟨⟨_, rfl, ?_⟩, hb⟩
        have hany : xs.any (fun m => !okPath m.1) = false := by
          rw [List.any_eq_false]
          intro m hm
          obtain ⟨j, hj, rfl⟩ := List.getElem_of_mem hm
          have := unhide HA j _ (List.getElem?_eq_getElem hj) (by omega)
          simpa using this
        rw [hany]
        simp

set_option maxRecDepth 20000 in
set_option maxHeartbeats 1000000 in
theorem ContainsFunc_path (v : Value) (xs : List Mo) (hx : xs.length ≤ 140737488355328) (w : World) (h : LstAt w v xs) :
    Calls Tryz.prog 71 #[v, .func (.func 72) #[] #[]] w fun e w' => e = .returned (.bool (xs.any (fun m => !okPath m.1))) ∧ Below w.heap.size w w' := by
  have cS := IndexFunc_path v xs hx w h
  go_enter Tryz.func71, Tryz.ntmps71
  go_wp2_with (go_at_call 112; refine cS.mono ?_; rintro e W' ⟨⟨i, rfl, hi⟩, hb⟩; have HI := hide hi; clear hi)
  go_ret
  exact ⟨retB (unhide HI), hb⟩

set_option maxRecDepth 20000 in
set_option maxHeartbeats 1000000 in
theorem IndexFunc_version (v : Value) (xs : List Mo) (hx : xs.length ≤ 140737488355328) (w : World) (h : LstAt w v xs) :
    Calls Tryz.prog 112 #[v, .func (.func 73) #[] #[]] w fun e w' => (∃ i : Int, e = .returned (.int .i64 i) ∧ decide (0 ≤ i) = xs.any (fun m => !okVersion m.2)) ∧ Below w.heap.size w w' := by
  rcases h with ⟨rfl, rfl⟩ | ⟨b, off, cap, rfl, hcap, hc⟩
  · go_enter Tryz.func112, Tryz.ntmps112
    go_wp2
    go_loop [8] (fun i => i = .int .i64 0) (fun _ => 0)
    case atStart => rfl
    case round =>
      subst hrel
      go_wp2
      go_ret
      exact ⟨⟨_, rfl, by simp⟩, Below.refl _ _⟩
  · have hbw : xs ≠ [] → b < w.heap.size := by
      intro hne
      obtain ⟨m0, hm0⟩ : ∃ m, xs[0]? = some m := by cases xs <;> simp_all
      have := (hc 0 m0 hm0).1
      simp only [World.cell?] at this
      split at this
      · rename_i heq
        exact (Array.getElem?_eq_some_iff.1 heq).1
      · cases this
    go_enter Tryz.func112, Tryz.ntmps112
    go_wp2
    go_loopw [8] (fun i wr => ∃ k : Nat, k ≤ xs.length ∧ i = .int .i64 k ∧ Below w.heap.size w wr ∧ (∀ j m, xs[j]? = some m → j < k → (!okVersion m.2) = false)) (fun i _ => xs.length - (intOf i).toNat)
    case atStart => exact ⟨0, Nat.zero_le _, rfl, Below.refl _ _, fun j m _ h => by omega⟩
    case round =>
      obtain ⟨k, hk, rfl, hb, hall⟩ := hrel
      have HA := hide hall
      have HC := hide hc
      have HB := hide hbw
      clear hall hc hbw
      by_cases hlt : k < xs.length
      · have hbl := unhide HB (by intro e; subst e; simp at hlt)
        obtain ⟨m, hm⟩ : ∃ m, xs[k]? = some m := ⟨_, List.getElem?_eq_getElem hlt⟩
        have c0 := (hb.cell (p := ⟨b, off + k * 2, none⟩) hbl).trans (unhide HC k m hm).1
        have c1 := (hb.cell (p := ⟨b, off + k * 2 + 1, none⟩) hbl).trans (unhide HC k m hm).2
        have HM := hide hm
        clear hm
        have cS := lacksVersion_calls m wr
        unfold mv at cS
        obtain ⟨q, hq⟩ : ∃ q, (!okVersion m.2) = q := ⟨_, rfl⟩
        have HQ := hide hq
        rw [hq] at cS
        clear hq
        cases q
        · go_wp2_with (go_at_call 73; refine cS.mono ?_; rintro e W' ⟨rfl, hb'⟩)
          go_roundw
          case rel =>
            refine ⟨k + 1, by omega, by go_num, hb.trans (hb'.mono hb.size), ?_⟩
            intro j m' h hj
            by_cases hjk : j < k
            · exact unhide HA j m' h hjk
            · obtain rfl : j = k := by omega
              rw [unhide HM] at h
              cases h
              exact unhide HQ
          case measure => simp [intOf]; omega
        · go_wp2_with (go_at_call 73; refine cS.mono ?_; rintro e W' ⟨rfl, hb'⟩)
          go_ret
          refine ⟨⟨_, rfl, ?_⟩, hb.trans (hb'.mono hb.size)⟩
          have hany : xs.any (fun m => !okVersion m.2) = true := by
            rw [List.any_eq_true]
            exact ⟨m, List.mem_of_getElem? (unhide HM), unhide HQ⟩
          rw [hany]
          simp
      · go_wp2
        go_ret
        refine ⟨⟨_, rfl, ?_⟩, hb⟩
        have hany : xs.any (fun m => !okVersion m.2) = false := by
          rw [List.any_eq_false]
          intro m hm
          obtain ⟨j, hj, rfl⟩ := List.getElem_of_mem hm
          have := unhide HA j _ (List.getElem?_eq_getElem hj) (by omega)
          simpa using this
        rw [hany]
        simp

set_option maxRecDepth 20000 in
set_option maxHeartbeats 1000000 in
theorem ContainsFunc_version (v : Value) (xs : List Mo) (hx : xs.length ≤ 140737488355328) (w : World) (h : LstAt w v xs) :
    Calls Tryz.prog 71 #[v, .func (.func 73) #[] #[]] w fun e w' => e = .returned (.bool (xs.any (fun m => !okVersion m.2))) ∧ Below w.heap.size w w' := by
  have cS := IndexFunc_version v xs hx w h
  go_enter Tryz.func71, Tryz.ntmps71
  go_wp2_with (go_at_call 112; refine cS.mono ?_; rintro e W' ⟨⟨i, rfl, hi⟩, hb⟩; have HI := hide hi; clear hi)
  go_ret
  exact ⟨retB (unhide HI), hb⟩

end Go.Proofs.YtijpgamdpcgneaaGreat
