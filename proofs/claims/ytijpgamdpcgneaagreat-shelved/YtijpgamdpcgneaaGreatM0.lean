import Derived.Test.YtijpgamdpcgneaaGreatA
import Derived.Lib.Tables
namespace Go.Proofs.YtijpgamdpcgneaaGreat
open Go.RowKit
set_option maxRecDepth 20000 in
set_option maxHeartbeats 4000000 in
set_option maxRecDepth 1000000 in
theorem Len64_calls (n : Int) (h0 : 0 ≤ n) (h : n ≤ 6) (w : World) :
    Calls Tryz.prog 147 #[.int .u64 n] w fun e w' => (∃ r : Int, e = .returned (.int .i64 r)) ∧ w' = w := by
  have h1 : (n < 4294967296) := by omega
  have h2 : (n < 65536) := by omega
  have h3 : (n < 256) := by omega
  go_enter Tryz.func147, Tryz.ntmps147
  go_wp2
  go_ret
  exact ⟨⟨_, rfl⟩, rfl⟩
end Go.Proofs.YtijpgamdpcgneaaGreat
