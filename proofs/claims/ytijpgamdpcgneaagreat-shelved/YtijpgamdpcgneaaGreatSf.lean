import Derived.Test.YtijpgamdpcgneaaGreatPl
namespace Go.Proofs.YtijpgamdpcgneaaGreat
open Go.RowKit Go.MapKept

set_option maxRecDepth 20000 in
set_option maxHeartbeats 1000000 in
theorem Shelved_calls (hM : ModsSaid) (sa : Option Addr) (sn sc : Nat) (ops : List Stepd) (w : World) (hs : Script w (.slice sa sn sc) ops) (hn : ops.length * 64 ≤ 140737488351232) :
    Calls Tryz.prog 3 #[.slice sa sn sc] w fun e w' => e = .returned (.bool true) ∧ Below w.heap.size w w' := by
  have cP := plays_calls hM sa sn sc ops w hs hn
  go_enter Tryz.func3, Tryz.ntmps3
  go_wp2_with fail
  refine cP.mono ?_
  rintro e W ⟨rfl, hb⟩
  clear cP
  go_wp2
  go_ret
  exact ⟨rfl, hb⟩
end Go.Proofs.YtijpgamdpcgneaaGreat
