import Derived.Test.YtijpgamdpcgneaaGreatD
import Derived.Deep.RegionHeld3
namespace Go.Proofs.YtijpgamdpcgneaaGreat
open Go.RowKit

set_option maxRecDepth 20000 in
set_option maxHeartbeats 1000000 in
theorem Compare_calls (a b : Mo) (w : World) :
    Calls Tryz.prog 68 #[mv a, mv b] w fun e w' => e = .returned (.int .i64 (cmpM a b)) ∧ Below w.heap.size w w' := by
  obtain ⟨p, m⟩ := a
  obtain ⟨q, n⟩ := b
  unfold mv
  go_enter Tryz.func68, Tryz.ntmps68
  go_wp2
  go_region_held3 (fun w' => w'.cell? ⟨w.heap.size, 0, none⟩ = some (.string p) ∧ w'.cell? ⟨w.heap.size, 1, none⟩ = some (.int .i64 m) ∧ w'.cell? ⟨w.heap.size + 1, 0, none⟩ = some (.string q) ∧ w'.cell? ⟨w.heap.size + 1, 1, none⟩ = some (.int .i64 n)) (simp [go_sem]) (first
    | (go_at_call 108; refine (cmps_calls p q _).mono ?_; rintro e W' ⟨rfl, rfl⟩)
    | (go_at_call 109; refine (cmpi_calls m n _).mono ?_; rintro e W' ⟨rfl, rfl⟩)
    | (go_at_call 107; refine (or_calls (w.heap.size + 2) (cmpStr p q) (cmpInt m n) _ (by simp [go_sem]) (by simp [go_sem])).mono ?_; rintro e W' ⟨rfl, rfl⟩))
  all_goals
    go_wp2
    go_ret
    refine ⟨rfl, ?_⟩
    exact (((below_two _ _ _).alloc (by simp <;> omega) _).drew)
end Go.Proofs.YtijpgamdpcgneaaGreat
