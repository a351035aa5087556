import Derived.Test.YtijpgamdpcgneaaGreatB
import Derived.Deep.QuietTactic
import Derived.BigQuiet
import Derived.Deep.RegionWith
namespace Go.Proofs.YtijpgamdpcgneaaGreat
open Go.RowKit

def cmpM (a b : Mo) : Int := orI (cmpStr a.1 b.1) (cmpInt a.2 b.2)

set_option maxRecDepth 20000 in
set_option maxHeartbeats 1000000 in
theorem Own_calls (a : Mo) (w : World) (hlim : a.1.size ≤ 281474976710656) :
    Calls Tryz.prog 55 #[mv a] w fun e w' => e = .returned (mv a) ∧ Below w.heap.size w w' := by
  obtain ⟨p, m⟩ := a
  unfold mv
  go_enter Tryz.func55, Tryz.ntmps55
  go_wp2
  go_region_with (go_at_call 88; refine (Clone_calls p _ hlim).mono ?_; rintro e W' ⟨rfl, hb⟩; have c1 := hb.cell (p := ⟨w.heap.size, 1, none⟩) (by simp <;> omega); have c2 := hb.cell (p := ⟨w.heap.size + 1, 0, none⟩) (by simp <;> omega); have c3 := hb.cell (p := ⟨w.heap.size + 1, 1, none⟩) (by simp <;> omega); have f2 := hb.frozen (p := ⟨w.heap.size + 1, 0, none⟩) (by simp <;> omega); have f3 := hb.frozen (p := ⟨w.heap.size + 1, 1, none⟩) (by simp <;> omega))
  all_goals
    go_wp2
    refine bodyPost_ret (v := .agg #[.string p, .int .i64 m]) ?_ rfl ⟨rfl, ?_⟩
    · simp [results, Tryz.results55, go_sem, c2, c3]
    · refine (((below_two _ _ _).drew.trans (hb.mono (by simp <;> omega))).setCell ?_ _).setCell ?_ _ <;> simp

end Go.Proofs.YtijpgamdpcgneaaGreat
