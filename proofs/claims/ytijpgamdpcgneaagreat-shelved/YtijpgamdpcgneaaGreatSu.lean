import Derived.Test.YtijpgamdpcgneaaGreatSt
namespace Go.Proofs.YtijpgamdpcgneaaGreat
open Go.RowKit Go.MapKept

set_option maxRecDepth 20000 in
set_option maxHeartbeats 400000 in
theorem pick_calls2 (c n : Int) (h1 : -9223372036854775808 ≤ c) (h2 : c ≤ 9223372036854775807) (hn : 0 < n) (hn2 : n ≤ 140737488355328) :
    ∃ k : Nat, (k : Int) < n ∧ ∀ w, Calls Tryz.prog 48 #[.int .i64 c, .int .i64 n] w fun e w' => e = .returned (.int .i64 k) ∧ w' = w := by
  by_cases hc : c < 0
  · have e : -(c + 1).tmod n = (-(c + 1)) % n := by
      rw [← Int.neg_tmod, Int.tmod_eq_emod_of_nonneg (by omega)]
    have h3 := Int.emod_lt_of_pos (-(c + 1)) hn
    have h4 := Int.emod_nonneg (-(c + 1)) (b := n) (by omega)
    refine ⟨((-(c + 1)) % n).toNat, by omega, fun w => ?_⟩
    go_enter Tryz.func48, Tryz.ntmps48
    go_wp2
    go_ret
    refine ⟨retI ?_, rfl⟩
    omega
  · have h3 := Int.emod_lt_of_pos c hn
    have h4 := Int.emod_nonneg c (b := n) (by omega)
    refine ⟨(c % n).toNat, by omega, fun w => ?_⟩
    go_enter Tryz.func48, Tryz.ntmps48
    go_wp2
    go_ret
    refine ⟨retI ?_, rfl⟩
    omega

set_option maxRecDepth 20000 in
set_option maxHeartbeats 2000000 in
theorem step_idle (tag : Nat → Nat) (y N : Nat) (pv : Value) (shs : List Shl) (k : Nat) (kind s : Int) (m : Mo) (la : Option Addr) (ln lcp : Nat) (w : World) (h : Py w tag y N pv shs k) (h1 : kind ≠ 1) (hi : shs = [] ∨ kind < 2) :
    Calls Tryz.prog 30 #[.pointer (some ⟨y, 0, none⟩), opv kind s m (.slice la ln lcp)] w fun r w' => r = .returned (.bool true) ∧ Stp w tag y N shs k w' := by
  unfold opv
  obtain ⟨pa, pc, rfl⟩ : ∃ pa pc, pv = .slice pa shs.length pc := by
    rcases h.own with ⟨h0, h00, _⟩ | ⟨g, cap, h0, _⟩
    · exact ⟨_, _, by rw [h0, h00]⟩
    · exact ⟨_, _, h0⟩
  obtain ⟨hNy, hyl⟩ := h.ylt
  obtain ⟨bv, hy⟩ : ∃ bv, w.heap[y]? = some (.cells #[.slice pa shs.length pc, bv] 59 (0, 0)) := by
    obtain ⟨ba, bc, svs, hy, _⟩ := h.bk
    exact ⟨_, hy⟩
  have cY : (w.alloc (.cells #[.int .i64 kind, .int .i64 s, .string m.1, .int .i64 m.2, .slice la ln lcp] 63)).cell? ⟨y, 0, none⟩ = some (.slice pa shs.length pc) := by
    rw [World.cell?_of_block (w := w) (Below.heap_alloc _ _ _ hyl), cell_of_block hy]; rfl
  have hfin : Stp w tag y N shs k (w.alloc (.cells #[.int .i64 kind, .int .i64 s, .string m.1, .int .i64 m.2, .slice la ln lcp] 63)) :=
    ⟨tag, _, shs, k, h.below (below_one _ _), by omega, by omega, (below_one w _).mono (by omega), fun j hj h0 => ⟨Below.heap_alloc _ _ _ hj, h0⟩⟩
  have HF := hide hfin
  clear h hy hfin
  by_cases hs : shs = []
  · subst hs
    simp only [List.length_nil] at cY
    go_enter Tryz.func30, Tryz.ntmps30
    go_wp2
    go_ret
    exact ⟨rfl, unhide HF⟩
  · have hk2 : kind < 2 := by rcases hi with e | e; exact absurd e hs; exact e
    have hl0 : 0 < shs.length := List.length_pos_iff.2 hs
    have hl1 : ((shs.length : Int) == 0) = false := by
      rw [beq_eq_false_iff_ne]; omega
    go_enter Tryz.func30, Tryz.ntmps30
    go_wp2
    go_ret
    exact ⟨rfl, unhide HF⟩

set_option maxRecDepth 20000 in
set_option maxHeartbeats 4000000 in
theorem step_shelved (tag : Nat → Nat) (y N : Nat) (pv : Value) (shs : List Shl) (k : Nat) (kind s : Int) (hs1 : -9223372036854775808 ≤ s) (hs2 : s ≤ 9223372036854775807) (m : Mo) (la : Option Addr) (ln lcp : Nat) (w : World) (h : Py w tag y N pv shs k) (hne : 0 < shs.length) (hl : shs.length ≤ 140737488355328) (hk2 : 2 ≤ kind) (hk5 : kind ≤ 5)
    (hS : ∀ (i : Nat) (q : Shl) (W : World), shs[i]? = some q → Below w.heap.size w W → Calls Tryz.prog 49 #[.pointer (some ⟨y, 0, none⟩), .agg #[.pointer (some ⟨q.x, 0, none⟩), .pointer (some ⟨q.c, 0, none⟩)], opv kind s m (.slice la ln lcp)] W fun r w' => r = .returned (.bool true) ∧ Left W (fun j => tag j = 4 + 2 * i) (fun j => tag j = 5 + 2 * i) (fun j => tag j = 3) y q.x q.c pv k w') :
    Calls Tryz.prog 30 #[.pointer (some ⟨y, 0, none⟩), opv kind s m (.slice la ln lcp)] w fun r w' => r = .returned (.bool true) ∧ Stp w tag y N shs k w' := by
  obtain ⟨pa, pc, hpv⟩ : ∃ pa pc, pv = .slice pa shs.length pc := by
    rcases h.own with ⟨h0, h00, _⟩ | ⟨g, cap, h0, _⟩
    · exact ⟨_, _, by rw [h0, h00]⟩
    · exact ⟨_, _, h0⟩
  obtain ⟨hNy, hyl⟩ := h.ylt
  obtain ⟨bv, hy⟩ : ∃ bv, w.heap[y]? = some (.cells #[pv, bv] 59 (0, 0)) := by
    obtain ⟨ba, bc, svs, hy, _⟩ := h.bk
    exact ⟨_, hy⟩
  have c0 : w.cell? ⟨y, 0, none⟩ = some pv := by rw [cell_of_block hy]; rfl
  obtain ⟨i, hi, cP⟩ := pick_calls2 s (shs.length : Int) hs1 hs2 (by omega) (by omega)
  have hi' : i < shs.length := by omega
  obtain ⟨q, hq⟩ : ∃ q, shs[i]? = some q := ⟨_, List.getElem?_eq_getElem hi'⟩
  have HS := hide (fun W => hS i q W hq)
  have H := hide h
  obtain ⟨p0, p1⟩ := cellsP_at shs i q hq
  obtain ⟨pg, hpa, hpgl, d0, d1⟩ : ∃ pg, pa = some ⟨pg, 0, none⟩ ∧ pg < w.heap.size ∧ w.cell? ⟨pg, i * 2, none⟩ = some (.pointer (some ⟨q.x, 0, none⟩)) ∧ w.cell? ⟨pg, i * 2 + 1, none⟩ = some (.pointer (some ⟨q.c, 0, none⟩)) := by
    rcases h.own with ⟨h0, h00, _⟩ | ⟨g, cap, h0, hr⟩
    · omega
    · rw [hpv] at h0
      cases h0
      exact ⟨g, rfl, hr.lt, hr.cell p0, hr.cell p1⟩
  subst hpv
  subst hpa
  have HQ := hide hq
  clear hS h hy hq p0 p1
  obtain ⟨x, hx⟩ : ∃ x, q.x = x := ⟨_, rfl⟩
  obtain ⟨c, hc⟩ : ∃ c, q.c = c := ⟨_, rfl⟩
  rw [hx] at d0
  rw [hc] at d1
  have HXC := hide (And.intro hx hc)
  clear hx hc
  have hb0 : Below w.heap.size w (w.alloc (.cells #[.int .i64 kind, .int .i64 s, .string m.1, .int .i64 m.2, .slice la ln lcp] 63)) := below_one _ _
  have a0 := (hb0.cell (p := ⟨y, 0, none⟩) hyl).trans c0
  have a1 := (hb0.cell (p := ⟨pg, i * 2, none⟩) hpgl).trans d0
  have a2 := (hb0.cell (p := ⟨pg, i * 2 + 1, none⟩) hpgl).trans d1
  unfold opv
  have hl1 : ((shs.length : Int) == 0) = false := by
    rw [beq_eq_false_iff_ne]; omega
  have hn1 : (kind == 1) = false := by
    rw [beq_eq_false_iff_ne]; omega
  clear c0 d0 d1
  go_enter Tryz.func30, Tryz.ntmps30
  go_upto_region 7 with fail
  have b1 : (w.alloc (.cells #[.int .i64 kind, .int .i64 s, .string m.1, .int .i64 m.2, .slice la ln lcp] 63)).heap[w.heap.size]? = some (.cells #[.int .i64 kind, .int .i64 s, .string m.1, .int .i64 m.2, .slice la ln lcp] 63 (0, 0)) := heap_alloc_new w _
  have hz : (w.alloc (.cells #[.int .i64 kind, .int .i64 s, .string m.1, .int .i64 m.2, .slice la ln lcp] 63)).heap.size = w.heap.size + 1 := by simp
  generalize hW0 : w.alloc (.cells #[.int .i64 kind, .int .i64 s, .string m.1, .int .i64 m.2, .slice la ln lcp] 63) = W0
  rw [hW0] at a0 a1 a2 hb0 b1 hz
  have hN0 : y < W0.heap.size ∧ pg < W0.heap.size ∧ w.heap.size < W0.heap.size := by omega
  clear hW0
  have e1 : W0.cell? ⟨w.heap.size, 1, none⟩ = some (.int .i64 s) := by rw [cell_of_block b1]; rfl
  have S0 : W0.cell? ⟨y, 0, none⟩ = some (.slice (some ⟨pg, 0, none⟩) shs.length pc) ∧ W0.cell? ⟨pg, i * 2, none⟩ = some (.pointer (some ⟨x, 0, none⟩)) ∧ W0.cell? ⟨pg, i * 2 + 1, none⟩ = some (.pointer (some ⟨c, 0, none⟩)) ∧ W0.cell? ⟨w.heap.size, 1, none⟩ = some (.int .i64 s) := ⟨a0, a1, a2, e1⟩
  have HB1 := hide b1
  have HHZ := hide hz
  clear b1 hz
  obtain ⟨n0, hn0⟩ : ∃ n0, w.heap.size = n0 := ⟨_, rfl⟩
  obtain ⟨l1, l2, l3⟩ := hN0
  rw [hn0] at e1 S0 l3
  simp only [hn0]
  have HN0 := hide hn0
  clear a0 a1 a2 e1
  go_cut [6] (fun v wc => ∃ b, v = .pointer (some ⟨b, 0, none⟩) ∧ wc.heap[b]? = some (.cells #[.pointer (some ⟨x, 0, none⟩), .pointer (some ⟨c, 0, none⟩)] 98 (0, 0)) ∧ Below W0.heap.size W0 wc)
  case first =>
    go_region_held3 (fun w' => w'.cell? ⟨y, 0, none⟩ = some (.slice (some ⟨pg, 0, none⟩) shs.length pc) ∧ w'.cell? ⟨pg, i * 2, none⟩ = some (.pointer (some ⟨x, 0, none⟩)) ∧ w'.cell? ⟨pg, i * 2 + 1, none⟩ = some (.pointer (some ⟨c, 0, none⟩)) ∧ w'.cell? ⟨n0, 1, none⟩ = some (.int .i64 s))
      (first | exact S0 | assumption | (simp [go_sem, *]; done))
      (first | (go_at_call 48; refine (cP _).mono ?_; rintro e W' ⟨rfl, rfl⟩))
    all_goals
      go_wp2_with fail
      go_meet
      exact ⟨_, rfl, heap_alloc_new W0 _, (below_one W0 _).drew⟩
  case rest =>
    obtain ⟨b, rfl, hbk, hbw⟩ := hcut
    have hwb : Below w.heap.size w wc := hb0.trans (hbw.mono hb0.size)
    have hop : wc.heap[n0]? = some (.cells #[.int .i64 kind, .int .i64 s, .string m.1, .int .i64 m.2, .slice la ln lcp] 63 (0, 0)) := (hbw.block n0 l3).trans (by rw [← unhide HN0]; exact unhide HB1)
    have cS := unhide HS wc hwb
    rw [(unhide HXC).1, (unhide HXC).2] at cS
    unfold opv at cS
    have c0 : wc.cell? ⟨b, 0, none⟩ = some (.pointer (some ⟨x, 0, none⟩)) := by rw [cell_of_block hbk]; rfl
    have c1 : wc.cell? ⟨b, 1, none⟩ = some (.pointer (some ⟨c, 0, none⟩)) := by rw [cell_of_block hbk]; rfl
    have o0 : wc.cell? ⟨n0, 0, none⟩ = some (.int .i64 kind) := by rw [cell_of_block hop]; rfl
    have o1 : wc.cell? ⟨n0, 1, none⟩ = some (.int .i64 s) := by rw [cell_of_block hop]; rfl
    have o2 : wc.cell? ⟨n0, 2, none⟩ = some (.string m.1) := by rw [cell_of_block hop]; rfl
    have o3 : wc.cell? ⟨n0, 3, none⟩ = some (.int .i64 m.2) := by rw [cell_of_block hop]; rfl
    have o4 : wc.cell? ⟨n0, 4, none⟩ = some (.slice la ln lcp) := by rw [cell_of_block hop]; rfl
    have HWB := hide hwb
    clear hbk hbw hop S0 hb0 hwb
    go_wp2_with fail
    refine cS.mono ?_
    rintro r W2 ⟨rfl, hleft⟩
    clear cS
    have HLE := hide hleft
    clear hleft
    go_wp2
    go_ret
    refine ⟨rfl, ?_⟩
    have hl' := unhide HLE
    rw [← (unhide HXC).1, ← (unhide HXC).2] at hl'
    obtain ⟨tag', pv', shs', k', g1, g2, g3, g4, g5⟩ := ((unhide H).below (unhide HWB)).left (unhide HQ) hl'
    have hwb := unhide HWB
    exact ⟨tag', pv', shs', k', g1, g2, g3, (hwb.mono (by omega)).trans g4, fun j hj h0 => ⟨(g5 j (by have := hwb.size; omega) h0).1.trans (hwb.block j hj), (g5 j (by have := hwb.size; omega) h0).2⟩⟩
end Go.Proofs.YtijpgamdpcgneaaGreat
