import Derived.Test.YtijpgamdpcgneaaGreatO
import Derived.Lib.SliceRun
namespace Go.Proofs.YtijpgamdpcgneaaGreat
open Go.RowKit

theorem run_nil36 (w : World) (a : Option Addr) (n c n' c' : Nat) : (binOp .eql 29 (.slice a n c) (.slice none n' c')).run Tryz.prog w = .ok (.bool a.isNone) w := Lib.run_eql_slice_nil w _ _ a n c n' c' Tryz.underlying29

def behind (i : Nat) : Mo := (⟨#[98, 101, 104, 105, 110, 100]⟩, (i : Int))
def behinds : Nat → List Mo
  | 0 => []
  | k + 1 => behinds k ++ [behind k]
theorem behinds_length (k : Nat) : (behinds k).length = k := by
  induction k with
  | zero => rfl
  | succ k ih => simp [behinds, ih]

set_option maxRecDepth 20000 in
set_option maxHeartbeats 1000000 in
theorem lent_nil (w : World) : Calls Tryz.prog 76 #[.slice none 0 0] w fun e w' => e = .returned (.slice none 0 0) ∧ w' = w := by
  have q36 := run_nil36
  go_enter Tryz.func76, Tryz.ntmps76
  go_wp2
  go_ret
  exact ⟨rfl, rfl⟩

set_option maxRecDepth 20000 in
set_option maxHeartbeats 2000000 in
theorem lent_calls (b off vc : Nat) (xs : List Mo) (hx : xs.length * 24 ≤ 140737488351232) (w : World) (h : LstAt w (.slice (some ⟨b, off, none⟩) xs.length vc) xs) :
    Calls Tryz.prog 76 #[.slice (some ⟨b, off, none⟩) xs.length vc] w fun e w' => (∃ g cap, e = .returned (.slice (some ⟨g, 0, none⟩) xs.length cap) ∧ w.heap.size ≤ g ∧ CRow w' g 33 2 (xs.length + 3) (cellsL (xs ++ behinds 3)) cap) ∧ Below w.heap.size w w' := by
  have HN := hide h.news
  have hlc : xs.length ≤ 140737488355328 := by omega
  clear h
  have q36 := run_nil36
  go_enter Tryz.func76, Tryz.ntmps76
  go_wp2_with (first
    | (at_builtin; refine wpList_append_any _ rfl (.tmp 7) (.tmp 8) 29 rfl 33 _ 2 24 Tryz.underlying29 Tryz.info33 rfl (by decide) rfl ⟨b, off, none⟩ xs.length vc (cellsL xs) rfl (cellsL_length _) (unhide HN) (cellsL_one _) (by unfold maxLen; omega) (by omega) ?_; intro v1 W1 hown1 hb1 hf1))
  go_loopw [3, 4] (fun v i wr => ∃ k : Nat, k ≤ 3 ∧ i = .int .i64 k ∧ Below w.heap.size w wr ∧ Own wr 33 2 v (xs.length + k) (cellsL (xs ++ behinds k)) ∧ (∀ g, v.ownBlock = some g → w.heap.size ≤ g)) (fun _ i _ => 3 - (intOf i).toNat)
  case atStart => exact ⟨0, by omega, rfl, hb1, by simpa [behinds] using hown1, hf1⟩
  case round =>
    obtain ⟨k, hk, rfl, hbw, hown, hfr⟩ := hrel
    by_cases hlt : k < 3
    · have hlt' : (k : Int) < 3 := by omega
      have hbs := hbw.size
      have hown' := hown.of_block (w' := wr.alloc (.cells #[.string ⟨#[98, 101, 104, 105, 110, 100]⟩, .int .i64 (k : Int)] 33)) (fun g hg => Below.heap_alloc _ _ _ (hown.lt g hg))
      clear hown hown1
      go_wp2_with (first
        | (at_builtin; refine wpList_append_gen _ rfl (.tmp 14) (.tmp 17) 29 rfl 33 _ 2 24 Tryz.underlying29 Tryz.info33 rfl (by decide) _ (xs.length + k) (cellsL (xs ++ behinds k)) rfl hown' ⟨wr.heap.size, 0, none⟩ 1 1 (cellsL [behind k]) rfl rfl (by simp [cellsL, behind, go_sem]) (cellsL_one _) (by unfold maxLen; omega) (by omega) (Or.inl (by decide)) ?_; intro g2 cp2 W2 hrow2 hu2 hg2))
      have hsz : (wr.alloc (.cells #[.string ⟨#[98, 101, 104, 105, 110, 100]⟩, .int .i64 (k : Int)] 33)).heap.size = wr.heap.size + 1 := by simp
      go_roundw
      case rel =>
        refine ⟨k + 1, by omega, by go_num, ?_, Or.inr ⟨g2, cp2, by rw [Nat.add_assoc], ?_⟩, ?_⟩
        · refine (hbw.alloc hbs _).trans (hu2.below (by omega) ?_)
          intro q hq e
          have := hfr q e
          omega
        · rw [behinds, ← List.append_assoc, cellsL_append (xs ++ behinds k), ← Nat.add_assoc]
          exact hrow2
        · intro q hq
          have e1 : g2 = q := Option.some.inj hq
          subst e1
          rcases hg2 with h | h
          · exact hfr g2 h
          · omega
      case measure => simp [intOf]; omega
    · obtain rfl : k = 3 := by omega
      rcases hown with ⟨_, hn, _⟩ | ⟨g, cap, rfl, hrow⟩
      · omega
      have hcap := hrow.2.1
      have hc1 : (xs.length : Int) ≤ (cap : Int) := by omega
      have HR := hide hrow
      clear hrow hown1
      go_wp2
      go_ret
      exact ⟨⟨g, cap, rfl, hfr g rfl, unhide HR⟩, hbw⟩
end Go.Proofs.YtijpgamdpcgneaaGreat
