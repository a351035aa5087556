import Derived.Test.YtijpgamdpcgneaaGreatH
namespace Go.Proofs.YtijpgamdpcgneaaGreat
open Go.RowKit

/-- ErrPath, ErrVersion, ErrTwice of a list. -/
def chk (l : List Mo) : Int := if l.any (fun m => !okPath m.1) then 2 else if l.any (fun m => !okVersion m.2) then 3 else if twice l then 4 else 0

set_option maxRecDepth 20000 in
set_option maxHeartbeats 1000000 in
theorem Check_calls (v : Value) (xs : List Mo) (hx : xs.length ≤ 140737488355328) (hne : xs ≠ []) (w : World) (h : LstAt w v xs) (hv : ∀ b off l cap, v = .slice (some ⟨b, off, none⟩) l cap → b < w.heap.size) :
    Calls Tryz.prog 45 #[v] w fun e w' => e = .returned (.int .i64 (chk xs)) ∧ Below w.heap.size w w' := by
  have c1 := ContainsFunc_path v xs hx w h
  have H := hide h
  have HV := hide hv
  clear h hv
  obtain ⟨p1, hp1⟩ : ∃ p, xs.any (fun m => !okPath m.1) = p := ⟨_, rfl⟩
  obtain ⟨p2, hp2⟩ : ∃ p, xs.any (fun m => !okVersion m.2) = p := ⟨_, rfl⟩
  obtain ⟨p3, hp3⟩ : ∃ p, twice xs = p := ⟨_, rfl⟩
  obtain ⟨r, hr⟩ : ∃ r, chk xs = r := ⟨_, rfl⟩
  have HR : Hid (r = if p1 then 2 else if p2 then 3 else if p3 then 4 else 0) := by
    show r = _
    rw [← hr, chk, hp1, hp2, hp3]
  rw [hr]
  rw [hp1] at c1
  have HP2 := hide hp2
  have HP3 := hide hp3
  clear hp1 hp2 hp3 hr
  go_enter Tryz.func45, Tryz.ntmps45
  go_wp2_with fail
  refine c1.mono ?_
  rintro e W1 ⟨rfl, hb1⟩
  clear c1
  cases p1
  · have c2 := ContainsFunc_version v xs hx W1 ((unhide H).below hb1 (unhide HV))
    rw [unhide HP2] at c2
    go_wp2_with fail
    refine c2.mono ?_
    rintro e W2 ⟨rfl, hb2⟩
    clear c2
    have hb12 := hb1.trans (hb2.mono hb1.size)
    cases p2
    · have c3 := namesPathTwice_calls v xs hx hne W2 ((unhide H).below hb12 (unhide HV))
      rw [unhide HP3] at c3
      go_wp2_with fail
      refine c3.mono ?_
      rintro e W3 ⟨rfl, hb3⟩
      clear c3
      have hb13 := hb12.trans (hb3.mono hb12.size)
      cases p3
      · go_wp2
        go_ret
        exact ⟨retI (by rw [unhide HR]; simp), hb13⟩
      · go_wp2
        go_ret
        exact ⟨retI (by rw [unhide HR]; simp), hb13⟩
    · go_wp2
      go_ret
      exact ⟨retI (by rw [unhide HR]; simp), hb12⟩
  · go_wp2
    go_ret
    exact ⟨retI (by rw [unhide HR]; simp), hb1⟩
end Go.Proofs.YtijpgamdpcgneaaGreat
