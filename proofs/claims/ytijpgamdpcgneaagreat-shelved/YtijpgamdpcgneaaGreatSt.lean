import Derived.Test.YtijpgamdpcgneaaGreatPy
namespace Go.Proofs.YtijpgamdpcgneaaGreat
open Go.RowKit Go.MapKept

theorem Tryz.info98 : (Tryz.prog.info? 98).map (fun i => (i.zero, i.size, i.bytes)) = some (some (Value.agg #[.pointer none, .pointer none]), 2, 16) := by kernel_rfl
theorem step_call0 {ops : Array Oper} {o : Oper} {a : Act} {K : Act → World → Prop} {Q : Exit → Act → World → Prop} {E : Prop} (w : World) (hgd : o.guard = none) (f : Nat) (ts : Array TypeId)
    (ho : o.op = .call { callee := .value (.func f), args := #[], argTypes := ts }) (R : Ending → World → Prop) (hc : Calls Tryz.prog f #[] w R)
    (hrun : ∀ args W, (callFunc f args).run Tryz.prog W = .ok (.enter f args) W)
    (h : ∀ e w', R e w' → ∃ v, e = .returned v ∧ K (a.put o.dst v) w') :
    if Region.wanted o (yielded ops a.tmps) = true then Oper.wp Tryz.prog o a w K Q else E :=
  step_call w hgd f #[] ts ho #[] (by simp) R hc hrun h
theorem run_call9 (args : Array Value) (W : World) : (callFunc 47 args).run Tryz.prog W = .ok (.enter 47 args) W := by
  simp [go_sem]
theorem pair_of2 {W : World} {b : Nat} {x y : Value} (h0 : W.cell? ⟨b, 0, none⟩ = some x) (h1 : W.cell? ⟨b, 1, none⟩ = some y) : ∀ j u, [x, y][j]? = some u → W.cell? ((⟨b, 0, none⟩ : Addr).add j) = some u := by
  intro j u hj
  rw [Addr.add_lit, Nat.zero_add]
  match j, hj with
  | 0, hj => simp at hj; subst hj; exact h0
  | 1, hj => simp at hj; subst hj; exact h1
theorem pair_one {x c : Nat} : ∀ u ∈ [Value.pointer (some ⟨x, 0, none⟩), .pointer (some ⟨c, 0, none⟩)], u.oneCell' = true := by
  intro u hu
  simp only [List.mem_cons, List.not_mem_nil, or_false] at hu
  rcases hu with rfl | rfl <;> rfl

set_option maxRecDepth 20000 in
set_option maxHeartbeats 4000000 in
theorem step_new (tag : Nat → Nat) (y N : Nat) (pv : Value) (shs : List Shl) (k : Nat) (s : Int) (m : Mo) (la : Option Addr) (ln lcp : Nat) (w : World) (h : Py w tag y N pv shs k) (hl : (shs.length + 1) * 16 ≤ 140737488355328) :
    Calls Tryz.prog 30 #[.pointer (some ⟨y, 0, none⟩), opv 1 s m (.slice la ln lcp)] w fun r w' => r = .returned (.bool true) ∧ Stp w tag y N shs k w' := by
  unfold opv
  obtain ⟨pa, pc, rfl⟩ : ∃ pa pc, pv = .slice pa shs.length pc := by
    rcases h.own with ⟨h0, h00, _⟩ | ⟨g, cap, h0, _⟩
    · exact ⟨_, _, by rw [h0, h00]⟩
    · exact ⟨_, _, h0⟩
  obtain ⟨hNy, hyl⟩ := h.ylt
  have hpy : ¬ (Value.slice pa shs.length pc).ownBlock = some y := fun e => by have := h.pt y e; have := h.ty; omega
  obtain ⟨bv, hy⟩ : ∃ bv, w.heap[y]? = some (.cells #[.slice pa shs.length pc, bv] 59 (0, 0)) := by
    obtain ⟨ba, bc, svs, hy, _⟩ := h.bk
    exact ⟨_, hy⟩
  have cN := New_calls (w.alloc (.cells #[.int .i64 1, .int .i64 s, .string m.1, .int .i64 m.2, .slice la ln lcp] 63))
  have hz0 : (w.alloc (.cells #[.int .i64 1, .int .i64 s, .string m.1, .int .i64 m.2, .slice la ln lcp] 63)).heap.size = w.heap.size + 1 := by simp
  rw [hz0] at cN
  have H := hide h
  have HY := hide hy
  clear h hy hz0
  go_enter Tryz.func30, Tryz.ntmps30
  go_wp2_with fail
  refine cN.mono ?_
  rintro r W1 ⟨rfl, hx1, hb1⟩
  clear cN
  have hbw1 : Below w.heap.size w W1 := (below_one w _).trans (hb1.mono (by omega))
  have hs1 := hb1.size
  have hs1' : w.heap.size < W1.heap.size := by
    simp at hs1
    omega
  have hx1' : PSh W1 (fun j => w.heap.size ≤ j ∧ j < W1.heap.size) (w.heap.size + 1 + 1) [] := hx1.mono (fun j hj => ⟨by omega, hj.2⟩)
  have k1 : W1.heap[y]? = some (.cells #[.slice pa shs.length pc, bv] 59 (0, 0)) := (hbw1.block y hyl).trans (unhide HY)
  have cY1 : W1.cell? ⟨y, 0, none⟩ = some (.slice pa shs.length pc) := by rw [cell_of_block k1]; rfl
  have cW := RNew_calls W1.drew
  have hy1 : y < W1.heap.size := by omega
  have hOA : ∀ W, Below W1.heap.size W1 W → Own W 98 2 (.slice pa shs.length pc) shs.length (cellsP shs) := fun W hW => ((unhide H).below hbw1).own.of_block (fun g hg => hW.block g (((unhide H).below hbw1).tl g (by have := (unhide H).pt g hg; omega)).2)
  have HOA := hide hOA
  have HX1 := hide hx1'
  have HB1 := hide hbw1
  have HK1 := hide k1
  clear hx1 hx1' hb1 hbw1 hs1 k1 hOA
  go_wp2_with fail
  go_region_law (first
    | (refine step_append_gen _ rfl (.tmp 15) (.tmp 19) 54 rfl 98 _ 2 16 Tryz.underlying54 Tryz.info98 rfl (by decide) (.slice pa shs.length pc) shs.length (cellsP shs) rfl (unhide HOA _ (hb4'.alloc hs4 _)) ⟨W4.heap.size, 0, none⟩ 1 1 [.pointer (some ⟨w.heap.size + 1 + 1, 0, none⟩), .pointer (some ⟨W1.heap.size, 0, none⟩)] rfl rfl (pair_of2 (by simp [go_sem]) (by simp [go_sem])) pair_one (by unfold maxLen; omega) (by omega) (Or.inl (by decide)) ?_; intro g2 cp2 W5 hrow5 hu5 hg5; have kY : W5.heap[y]? = some (.cells #[.slice pa shs.length pc, bv] 59 (0, 0)) := (hu5.block y (by simp; omega) hpy).trans ((Below.heap_alloc _ _ _ (by omega)).trans ((hb4'.block y hy1).trans (unhide HK1))); have cY5 : W5.cell? ⟨y, 0, none⟩ = some (.slice pa shs.length pc) := (by rw [cell_of_block kY]; rfl); have fY5 : W5.frozen? ⟨y, 0, none⟩ = false := (by simp [World.frozen?, kY]); have HR5 := hide hrow5; have HU5 := hide hu5; have HG5 := hide hg5; clear hrow5 hu5 hg5 kY)
    | (refine step_call0 W1.drew rfl 47 #[] rfl _ cW run_call9 ?_; rintro e W4 ⟨rfl, hr4, hb4⟩; have hb4' : Below W1.heap.size W1 W4 := ⟨hb4.os, hb4.tape, hb4.output, hb4.size, hb4.block⟩; have hs4 : W1.heap.size ≤ W4.heap.size := hb4.size; have cY4 : W4.cell? ⟨y, 0, none⟩ = some (.slice pa shs.length pc) := (hb4'.cell (p := ⟨y, 0, none⟩) hy1).trans cY1; have cY6 : ∀ o, (W4.alloc o).cell? ⟨y, 0, none⟩ = some (.slice pa shs.length pc) := (fun o => (World.cell?_of_block (Below.heap_alloc _ _ _ (by show y < W4.heap.size; omega))).trans cY4); have HR4 := hide hr4; clear hr4; refine ⟨_, rfl, ?_⟩))
  all_goals
    go_wp2
    go_ret
    exact ⟨rfl, (unhide H).new (unhide HB1) (unhide HX1) hb4' (unhide HR4) (unhide HR5) (unhide HU5) (unhide HG5) rfl rfl rfl rfl⟩
end Go.Proofs.YtijpgamdpcgneaaGreat
