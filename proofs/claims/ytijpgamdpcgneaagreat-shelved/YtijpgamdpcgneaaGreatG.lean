import Derived.Test.YtijpgamdpcgneaaGreatG0
namespace Go.Proofs.YtijpgamdpcgneaaGreat
open Go.RowKit

theorem LstAt.length {w : World} {v : Value} {xs : List Mo} (h : LstAt w v xs) : ∃ a cap, v = .slice a xs.length cap := by
  rcases h with ⟨rfl, rfl⟩ | ⟨b, off, cap, rfl, _⟩
  · exact ⟨_, _, rfl⟩
  · exact ⟨_, _, rfl⟩

theorem LstAt.at {w : World} {v : Value} {xs : List Mo} (h : LstAt w v xs) (hne : xs ≠ []) : ∃ b off cap, v = .slice (some ⟨b, off, none⟩) xs.length cap ∧ b < w.heap.size ∧
    ∀ (i : Nat) (m : Mo), xs[i]? = some m → w.cell? ⟨b, off + i * 2, none⟩ = some (.string m.1) ∧ w.cell? ⟨b, off + i * 2 + 1, none⟩ = some (.int .i64 m.2) := by
  rcases h with ⟨rfl, rfl⟩ | ⟨b, off, cap, rfl, _, hc⟩
  · exact absurd rfl hne
  · refine ⟨b, off, cap, rfl, ?_, hc⟩
    obtain ⟨m0, hm0⟩ : ∃ m, xs[0]? = some m := by cases xs <;> simp_all
    have := (hc 0 m0 hm0).1
    simp only [World.cell?] at this
    split at this
    · rename_i heq
      exact (Array.getElem?_eq_some_iff.1 heq).1
    · cases this

def eqMs : List Mo → List Mo → Bool
  | [], [] => true
  | a :: r, b :: t => eqM a b && eqMs r t
  | _, _ => false

theorem eqMs_true {xs ys : List Mo} (hl : xs.length = ys.length) (h : ∀ (i : Nat) a b, xs[i]? = some a → ys[i]? = some b → eqM a b = true) : eqMs xs ys = true := by
  induction xs generalizing ys with
  | nil => cases ys with
    | nil => rfl
    | cons => simp at hl
  | cons a r ih => cases ys with
    | nil => simp at hl
    | cons b t =>
      simp only [eqMs, Bool.and_eq_true]
      refine ⟨h 0 a b (by simp) (by simp), ih (by simpa using hl) ?_⟩
      intro i a b h1 h2
      exact h (i + 1) a b (by simpa using h1) (by simpa using h2)

theorem eqMs_false {xs ys : List Mo} (i : Nat) {a b : Mo} (h1 : xs[i]? = some a) (h2 : ys[i]? = some b) (h : eqM a b = false) : eqMs xs ys = false := by
  induction xs generalizing ys i with
  | nil => simp at h1
  | cons a r ih => cases ys with
    | nil => rfl
    | cons b t =>
      simp only [eqMs, Bool.and_eq_false_iff]
      cases i with
      | zero => simp at h1 h2; subst h1 h2; exact Or.inl h
      | succ i => exact Or.inr (ih i (by simpa using h1) (by simpa using h2))

theorem eqMs_len {xs ys : List Mo} (hl : xs.length ≠ ys.length) : eqMs xs ys = false := by
  induction xs generalizing ys with
  | nil => cases ys with
    | nil => simp at hl
    | cons => rfl
  | cons a r ih => cases ys with
    | nil => rfl
    | cons b t => simp only [eqMs, ih (ys := t) (by simpa using hl), Bool.and_false]

set_option maxRecDepth 20000 in
set_option maxHeartbeats 1000000 in
theorem sameMods_calls (v u : Value) (xs ys : List Mo) (hx : xs.length ≤ 140737488355328) (hy : ys.length ≤ 140737488355328) (w : World) (h : LstAt w v xs) (h' : LstAt w u ys) :
    Calls Tryz.prog 119 #[v, u] w fun e w' => e = .returned (.bool (eqMs xs ys)) ∧ Below w.heap.size w w' := by
  by_cases hl : xs.length = ys.length
  · by_cases hne : xs = []
    · subst hne
      have : ys = [] := by cases ys <;> simp_all
      subst this
      obtain ⟨a, c, rfl⟩ := h.length
      obtain ⟨a', c', rfl⟩ := h'.length
      go_enter Tryz.func119, Tryz.ntmps119
      go_wp2
      go_loop [5] (fun i => i = .int .i64 0) (fun _ => 0)
      case atStart => rfl
      case round =>
        subst hrel
        go_wp2
        go_ret
        exact ⟨retB (by simp [eqMs]), Below.refl _ _⟩
    · obtain ⟨b, off, cap, rfl, hb, hc⟩ := h.at hne
      obtain ⟨b', off', cap', rfl, hb', hc'⟩ := h'.at (by intro e; subst e; simp_all)
      obtain ⟨n, hn⟩ : ∃ n, xs.length = n := ⟨_, rfl⟩
      have hn' : ys.length = n := by omega
      have HC := hide hc
      have HC' := hide hc'
      have HN := hide hn
      have HN' := hide hn'
      clear hc hc' h h'
      rw [hn] at hx
      rw [hn, hn']
      clear hn hn' hl hy
      go_enter Tryz.func119, Tryz.ntmps119
      go_wp2
      go_loopw [5] (fun i wr => ∃ k : Nat, k ≤ n ∧ i = .int .i64 k ∧ Below w.heap.size w wr ∧ (∀ (j : Nat) x y, xs[j]? = some x → ys[j]? = some y → j < k → eqM x y = true)) (fun i _ => n - (intOf i).toNat)
      case atStart => exact ⟨0, Nat.zero_le _, rfl, Below.refl _ _, fun j _ _ _ _ h => by omega⟩
      case round =>
        obtain ⟨k, hk, rfl, hbw, hall⟩ := hrel
        have HA := hide hall
        clear hall
        by_cases hlt : k < n
        · have hk1 : k < xs.length := by rw [unhide HN]; exact hlt
          have hk2 : k < ys.length := by rw [unhide HN']; exact hlt
          obtain ⟨m, hm⟩ : ∃ m, xs[k]? = some m := ⟨_, List.getElem?_eq_getElem hk1⟩
          obtain ⟨m', hm'⟩ : ∃ m, ys[k]? = some m := ⟨_, List.getElem?_eq_getElem hk2⟩
          have c0 := (hbw.cell (p := ⟨b, off + k * 2, none⟩) hb).trans (unhide HC k m hm).1
          have c1 := (hbw.cell (p := ⟨b, off + k * 2 + 1, none⟩) hb).trans (unhide HC k m hm).2
          have d0 := (hbw.cell (p := ⟨b', off' + k * 2, none⟩) hb').trans (unhide HC' k m' hm').1
          have d1 := (hbw.cell (p := ⟨b', off' + k * 2 + 1, none⟩) hb').trans (unhide HC' k m' hm').2
          have HM := hide hm
          have HM' := hide hm'
          clear hm hm' hk1 hk2
          have he := fun W => run_neq35 m m' W
          have hg := fun W => run_guard35 .neq (.tmp 20) (.tmp 24) #[.string m.1, .int .i64 m.2] #[.string m'.1, .int .i64 m'.2] W
          obtain ⟨q, hq⟩ : ∃ q, eqM m m' = q := ⟨_, rfl⟩
          rw [hq] at he
          have HQ := hide hq
          clear hq
          go_wp2
          go_quiet (fail)
          cases q
          · go_wp2
            go_ret
            refine ⟨retB ?_, below_drewN hbw _⟩
            rw [eqMs_false k (unhide HM) (unhide HM') (unhide HQ)]
          · go_wp2
            go_roundw
            case rel =>
              refine ⟨k + 1, by omega, by go_num, below_drewN hbw _, ?_⟩
              intro j x y h1 h2 hj
              by_cases hjk : j < k
              · exact unhide HA j x y h1 h2 hjk
              · obtain rfl : j = k := by omega
                rw [unhide HM] at h1
                rw [unhide HM'] at h2
                cases h1
                cases h2
                exact unhide HQ
            case measure => simp [intOf]; omega
        · go_wp2
          go_ret
          refine ⟨retB ?_, hbw⟩
          rw [eqMs_true (by rw [unhide HN, unhide HN']) (fun i a b h1 h2 => unhide HA i a b h1 h2 (by have := unhide HN; have := (List.getElem?_eq_some_iff.1 h1).1; omega))]
  · obtain ⟨a, c, rfl⟩ := h.length
    obtain ⟨a', c', rfl⟩ := h'.length
    have hne : ((xs.length : Int) != (ys.length : Int)) = true := by rw [bne_iff_ne]; omega
    go_enter Tryz.func119, Tryz.ntmps119
    go_wp2
    go_ret
    exact ⟨retB (eqMs_len hl).symm, Below.refl _ _⟩
end Go.Proofs.YtijpgamdpcgneaaGreat
