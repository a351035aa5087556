import Derived.Test.YtijpgamdpcgneaaGreatI
namespace Go.Proofs.YtijpgamdpcgneaaGreat
open Go.RowKit

theorem twice_of {l : List Mo} {i j : Nat} {a b : Mo} (hi : l[i]? = some a) (hj : l[j]? = some b) (hij : j < i) (h : a.1.toList = b.1.toList) : twice l = true := by
  simp only [twice, Bool.not_eq_true', decide_eq_false_iff_not]
  intro hp
  rw [List.pairwise_iff_getElem] at hp
  obtain ⟨h1, rfl⟩ := List.getElem?_eq_some_iff.1 hi
  obtain ⟨h2, rfl⟩ := List.getElem?_eq_some_iff.1 hj
  exact hp j i h2 h1 hij h.symm

theorem twice_not {l : List Mo} (h : ∀ (i j : Nat) (a b : Mo), l[i]? = some a → l[j]? = some b → j < i → a.1.toList ≠ b.1.toList) : twice l = false := by
  simp only [twice, Bool.not_eq_false', decide_eq_true_eq]
  rw [List.pairwise_iff_getElem]
  intro i j h1 h2 hij e
  exact h j i _ _ (List.getElem?_eq_getElem h2) (List.getElem?_eq_getElem h1) hij e.symm

set_option maxRecDepth 20000 in
set_option maxHeartbeats 2000000 in
theorem modules_calls (v : Value) (xs : List Mo) (hx : xs.length ≤ 140737488355328) (hp : ∀ m ∈ xs, m.1.size ≤ 140737488355328) (hne : xs ≠ []) (w : World) (h : LstAt w v xs) :
    Calls Tryz.prog 115 #[v] w fun e w' => e = .returned (.int .i64 (chk xs)) ∧ Below w.heap.size w w' := by
  obtain ⟨b, off, cap, rfl, hb, hc⟩ := h.at hne
  have HC := hide hc
  have HP := hide hp
  clear hc h hp
  obtain ⟨r, hr⟩ : ∃ r, chk xs = r := ⟨_, rfl⟩
  have HR := hide hr
  rw [hr]
  clear hr
  go_enter Tryz.func115, Tryz.ntmps115
  go_wp2
  go_loopw [3] (fun i wr => ∃ k : Nat, k ≤ xs.length ∧ i = .int .i64 k ∧ Below w.heap.size w wr ∧ ∀ (j : Nat) m, xs[j]? = some m → j < k → okPath m.1 = true) (fun i _ => xs.length - (intOf i).toNat)
  case atStart => exact ⟨0, Nat.zero_le _, rfl, Below.refl _ _, fun j _ _ h => by omega⟩
  case round =>
    obtain ⟨k, hk, rfl, hbw, hall⟩ := hrel
    have HA := hide hall
    clear hall
    by_cases hlt : k < xs.length
    · obtain ⟨m, hm⟩ : ∃ m, xs[k]? = some m := ⟨_, List.getElem?_eq_getElem hlt⟩
      have c0 := (hbw.cell (p := ⟨b, off + k * 2, none⟩) hb).trans (unhide HC k m hm).1
      have cS := path_calls m.1 (unhide HP m (List.mem_of_getElem? hm)) wr
      have HM := hide hm
      clear hm
      obtain ⟨q, hq⟩ : ∃ q, okPath m.1 = q := ⟨_, rfl⟩
      rw [hq] at cS
      have HQ := hide hq
      clear hq
      cases q
      · go_wp2_with (go_at_call 125; refine cS.mono ?_; rintro e W' ⟨rfl, rfl⟩)
        go_ret
        refine ⟨retI ?_, hbw⟩
        rw [← unhide HR, chk, if_pos]
        rw [List.any_eq_true]
        exact ⟨m, List.mem_of_getElem? (unhide HM), by rw [unhide HQ]; rfl⟩
      · go_wp2_with (go_at_call 125; refine cS.mono ?_; rintro e W' ⟨rfl, rfl⟩)
        go_roundw
        case rel =>
          refine ⟨k + 1, by omega, by go_num, hbw, ?_⟩
          intro j m' h hj
          by_cases hjk : j < k
          · exact unhide HA j m' h hjk
          · obtain rfl : j = k := by omega
            rw [unhide HM] at h
            cases h
            exact unhide HQ
        case measure => simp [intOf]; omega
    · have P1 : Hid (xs.any (fun m => !okPath m.1) = false) := by
        show _ = false
        rw [List.any_eq_false]
        intro m hm
        obtain ⟨j, hj, rfl⟩ := List.getElem_of_mem hm
        simp [unhide HA j _ (List.getElem?_eq_getElem hj) (by omega)]
      clear HA
      obtain ⟨wo, rfl⟩ : ∃ wo : World, wo = wr := ⟨_, rfl⟩
      go_wp2
      go_loopw [5] (fun i wr => ∃ k : Nat, k ≤ xs.length ∧ i = .int .i64 k ∧ Below w.heap.size w wr ∧ ∀ (j : Nat) m, xs[j]? = some m → j < k → okVersion m.2 = true) (fun i _ => xs.length - (intOf i).toNat)
      case atStart => exact ⟨0, Nat.zero_le _, rfl, hbw, fun j _ _ h => by omega⟩
      case round =>
        clear hbw hk hlt
        obtain ⟨k', hk, rfl, hbw, hall⟩ := hrel
        have HA := hide hall
        clear hall
        by_cases hlt : k' < xs.length
        · obtain ⟨m, hm⟩ : ∃ m, xs[k']? = some m := ⟨_, List.getElem?_eq_getElem hlt⟩
          have c0 := (hbw.cell (p := ⟨b, off + k' * 2 + 1, none⟩) hb).trans (unhide HC k' m hm).2
          have cS := version_calls m.2 wr
          have HM := hide hm
          clear hm
          obtain ⟨q, hq⟩ : ∃ q, okVersion m.2 = q := ⟨_, rfl⟩
          rw [hq] at cS
          have HQ := hide hq
          clear hq
          cases q
          · go_wp2_with (go_at_call 126; refine cS.mono ?_; rintro e W' ⟨rfl, rfl⟩)
            go_ret
            refine ⟨retI ?_, hbw⟩
            rw [← unhide HR, chk, unhide P1, if_neg (by simp), if_pos]
            rw [List.any_eq_true]
            exact ⟨m, List.mem_of_getElem? (unhide HM), by rw [unhide HQ]; rfl⟩
          · go_wp2_with (go_at_call 126; refine cS.mono ?_; rintro e W' ⟨rfl, rfl⟩)
            go_roundw
            case rel =>
              refine ⟨k' + 1, by omega, by go_num, hbw, ?_⟩
              intro j m' h hj
              by_cases hjk : j < k'
              · exact unhide HA j m' h hjk
              · obtain rfl : j = k' := by omega
                rw [unhide HM] at h
                cases h
                exact unhide HQ
            case measure => simp [intOf]; omega
        · have P2 : Hid (xs.any (fun m => !okVersion m.2) = false) := by
            show _ = false
            rw [List.any_eq_false]
            intro m hm
            obtain ⟨j, hj, rfl⟩ := List.getElem_of_mem hm
            simp [unhide HA j _ (List.getElem?_eq_getElem hj) (by omega)]
          clear HA
          obtain ⟨wo2, rfl⟩ : ∃ wo : World, wo = wr := ⟨_, rfl⟩
          go_wp2
          go_loopw [7] (fun i wr => ∃ k : Nat, k ≤ xs.length ∧ i = .int .i64 k ∧ Below w.heap.size w wr ∧ ∀ (i j : Nat) a b, xs[i]? = some a → xs[j]? = some b → j < i → i < k → a.1.toList ≠ b.1.toList) (fun i _ => xs.length - (intOf i).toNat)
          case atStart => exact ⟨0, Nat.zero_le _, rfl, hbw, fun i j _ _ _ _ _ h => by omega⟩
          case round =>
            clear hbw hk hlt
            obtain ⟨n, hk, rfl, hbw, hall⟩ := hrel
            have HA := hide hall
            clear hall
            by_cases hlt : n < xs.length
            · obtain ⟨m, hm⟩ : ∃ m, xs[n]? = some m := ⟨_, List.getElem?_eq_getElem hlt⟩
              have HM := hide hm
              clear hm
              obtain ⟨wo3, rfl⟩ : ∃ wo : World, wo = wr := ⟨_, rfl⟩
              go_wp2
              go_loopw [8] (fun i wr => ∃ k : Nat, k ≤ n ∧ i = .int .i64 k ∧ Below w.heap.size w wr ∧ ∀ (j : Nat) b, xs[j]? = some b → j < k → m.1.toList ≠ b.1.toList) (fun i _ => n - (intOf i).toNat)
              case atStart => exact ⟨0, Nat.zero_le _, rfl, hbw, fun j _ _ h => by omega⟩
              case round =>
                clear hbw
                obtain ⟨l, hl, rfl, hbw, hall2⟩ := hrel
                have HB := hide hall2
                clear hall2
                by_cases hln : l < n
                · obtain ⟨m', hm'⟩ : ∃ m, xs[l]? = some m := ⟨_, List.getElem?_eq_getElem (by omega)⟩
                  have c0 := (hbw.cell (p := ⟨b, off + n * 2, none⟩) hb).trans (unhide HC n m (unhide HM)).1
                  have c1 := (hbw.cell (p := ⟨b, off + l * 2, none⟩) hb).trans (unhide HC l m' hm').1
                  have HM' := hide hm'
                  clear hm'
                  have hln' : l < xs.length := by omega
                  go_wp2
                  go_quiet (fail)
                  go_wp2
                  · go_ret
                    refine ⟨retI ?_, below_drewN hbw _⟩
                    have hpe0 : (m.1.toList == m'.1.toList) = true := by assumption
                    have hpe : m.1.toList = m'.1.toList := by simpa using hpe0
                    rw [← unhide HR, chk, unhide P1, if_neg (by simp), unhide P2, if_neg (by simp), if_pos]
                    exact twice_of (unhide HM) (unhide HM') hln hpe
                  · go_roundw
                    case rel =>
                      have hpe0 : (m.1.toList == m'.1.toList) = false := by assumption
                      have hpe : ¬ m.1.toList = m'.1.toList := by simpa using hpe0
                      refine ⟨l + 1, by omega, by go_num, below_drewN hbw _, ?_⟩
                      intro j b' h hj
                      by_cases hjl : j < l
                      · exact unhide HB j b' h hjl
                      · obtain rfl : j = l := by omega
                        rw [unhide HM'] at h
                        cases h
                        exact hpe
                    case measure => simp [intOf]; omega
                · go_wp2
                  go_roundw
                  case rel =>
                    refine ⟨n + 1, by omega, by go_num, hbw, ?_⟩
                    intro i j a b' hi hj hji hin
                    by_cases hin' : i < n
                    · exact unhide HA i j a b' hi hj hji hin'
                    · obtain rfl : i = n := by omega
                      rw [unhide HM] at hi
                      cases hi
                      exact unhide HB j b' hj (by omega)
                  case measure => simp [intOf]; omega
            · go_wp2
              go_ret
              refine ⟨retI ?_, hbw⟩
              rw [← unhide HR, chk, unhide P1, if_neg (by simp), unhide P2, if_neg (by simp), twice_not, if_neg (by simp)]
              intro i j a b' hi hj hji
              exact unhide HA i j a b' hi hj hji (by have := (List.getElem?_eq_some_iff.1 hi).1; omega)
end Go.Proofs.YtijpgamdpcgneaaGreat
