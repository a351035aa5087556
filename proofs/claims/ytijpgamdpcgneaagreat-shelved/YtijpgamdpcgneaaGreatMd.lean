import Derived.Test.YtijpgamdpcgneaaGreatMc
namespace Go.Proofs.YtijpgamdpcgneaaGreat
open Go.RowKit

theorem news_of2 {W : World} {b : Nat} {x y : Value} (h0 : W.cell? ⟨b, 0, none⟩ = some x) (h1 : W.cell? ⟨b, 1, none⟩ = some y) : ∀ j u, [x, y][j]? = some u → W.cell? ((⟨b, 0, none⟩ : Addr).add j) = some u := by
  intro j u hj
  rw [Addr.add_lit, Nat.zero_add]
  match j, hj with
  | 0, hj => simp at hj; subst hj; exact h0
  | 1, hj => simp at hj; subst hj; exact h1
theorem news_of4 {W : World} {b : Nat} {x y : Value} (h0 : W.cell? ⟨b, 0, none⟩ = some x) (h1 : W.cell? ⟨b, 1, none⟩ = some y) (h2 : W.cell? ⟨b, 2, none⟩ = some x) (h3 : W.cell? ⟨b, 3, none⟩ = some y) : ∀ j u, [x, y, x, y][j]? = some u → W.cell? ((⟨b, 0, none⟩ : Addr).add j) = some u := by
  intro j u hj
  rw [Addr.add_lit, Nat.zero_add]
  match j, hj with
  | 0, hj => simp at hj; subst hj; exact h0
  | 1, hj => simp at hj; subst hj; exact h1
  | 2, hj => simp at hj; subst hj; exact h2
  | 3, hj => simp at hj; subst hj; exact h3
theorem news_of6 {W : World} {b : Nat} {x y : Value} (h0 : W.cell? ⟨b, 0, none⟩ = some x) (h1 : W.cell? ⟨b, 1, none⟩ = some y) (h2 : W.cell? ⟨b, 2, none⟩ = some x) (h3 : W.cell? ⟨b, 3, none⟩ = some y) (h4 : W.cell? ⟨b, 4, none⟩ = some x) (h5 : W.cell? ⟨b, 5, none⟩ = some y) : ∀ j u, [x, y, x, y, x, y][j]? = some u → W.cell? ((⟨b, 0, none⟩ : Addr).add j) = some u := by
  intro j u hj
  rw [Addr.add_lit, Nat.zero_add]
  match j, hj with
  | 0, hj => simp at hj; subst hj; exact h0
  | 1, hj => simp at hj; subst hj; exact h1
  | 2, hj => simp at hj; subst hj; exact h2
  | 3, hj => simp at hj; subst hj; exact h3
  | 4, hj => simp at hj; subst hj; exact h4
  | 5, hj => simp at hj; subst hj; exact h5

theorem Upd.cellK {S : Nat → Prop} {a b : World} (h : Upd S a b) : ∀ p : Addr, p.block < a.heap.size → ¬ S p.block → b.cell? p = a.cell? p := fun p hp hs => World.cell?_of_block (h.block p.block hp hs)

theorem sm_alloc {zb n : Nat} {z : Mo} {lv : Value} {w' : World} (o : Obj) (h : w'.cell? ⟨zb, 0, none⟩ = some (.string z.1) ∧ w'.cell? ⟨zb, 1, none⟩ = some (.int .i64 z.2) ∧ zb < w'.heap.size ∧ Shp w' lv n) :
    (w'.alloc o).cell? ⟨zb, 0, none⟩ = some (.string z.1) ∧ (w'.alloc o).cell? ⟨zb, 1, none⟩ = some (.int .i64 z.2) ∧ zb < (w'.alloc o).heap.size ∧ Shp (w'.alloc o) lv n := by
  obtain ⟨h0, h1, h2, h3⟩ := h
  refine ⟨?_, ?_, by simp; omega, h3.alloc o⟩
  · rw [World.cell?_of_block (w := w') (Below.heap_alloc _ _ _ h2)]; exact h0
  · rw [World.cell?_of_block (w := w') (Below.heap_alloc _ _ _ h2)]; exact h1

theorem sm_upd {zb n : Nat} {z : Mo} {lv : Value} {lb : Option Nat} {w' w2 : World} (h : w'.cell? ⟨zb, 0, none⟩ = some (.string z.1) ∧ w'.cell? ⟨zb, 1, none⟩ = some (.int .i64 z.2) ∧ zb < w'.heap.size ∧ Shp w' lv n) (hu : Upd (fun k => lb = some k) w' w2) (hz : ¬ lb = some zb) (hs : Shp w2 lv n) :
    w2.cell? ⟨zb, 0, none⟩ = some (.string z.1) ∧ w2.cell? ⟨zb, 1, none⟩ = some (.int .i64 z.2) ∧ zb < w2.heap.size ∧ Shp w2 lv n := by
  obtain ⟨h0, h1, h2, h3⟩ := h
  exact ⟨(hu.cellK ⟨zb, 0, none⟩ h2 hz).trans h0, (hu.cellK ⟨zb, 1, none⟩ h2 hz).trans h1, by have := hu.size; omega, hs⟩

theorem zone (z : Mo) (k : Nat) : ∀ u ∈ (List.replicate k [Value.string z.1, .int .i64 z.2]).flatten, u.oneCell' = true := by
  intro u hu
  rw [List.mem_flatten] at hu
  obtain ⟨l, hl, hul⟩ := hu
  rw [List.mem_replicate] at hl
  obtain ⟨_, rfl⟩ := hl
  simp at hul
  rcases hul with rfl | rfl <;> rfl

theorem cell_thru {A B : World} {lb : Option Nat} {N : Nat} (kc : ∀ p : Addr, p.block < A.heap.size → ¬ lb = some p.block → B.cell? p = A.cell? p) (hl : ∀ k, lb = some k → k < N) {b o : Nat} {v : Value} (h1 : b < A.heap.size) (h2 : N ≤ b) (h : A.cell? ⟨b, o, none⟩ = some v) : B.cell? ⟨b, o, none⟩ = some v :=
  (kc ⟨b, o, none⟩ h1 (fun e => by have h3 : b < N := hl b e; omega)).trans h

theorem cell_old {A : World} {o : Obj} {b i : Nat} {v : Value} (h1 : b < A.heap.size) (h : A.cell? ⟨b, i, none⟩ = some v) : (A.alloc o).cell? ⟨b, i, none⟩ = some v :=
  (World.cell?_of_block (Below.heap_alloc A o b h1)).trans h

theorem share_cap {w : World} {v : Value} {n g k cap : Nat} (hg : (v.ownBlock = some g ∧ cap = capOf v) ∨ w.heap.size ≤ g) (hs : Shp w v n) : (Value.slice (some ⟨g, 0, none⟩) k cap).ownBlock = v.ownBlock → capOf (Value.slice (some ⟨g, 0, none⟩) k cap) = capOf v := by
  intro e
  rcases hg with ⟨_, h⟩ | h
  · exact h
  · have := hs.lt g e.symm
    omega

theorem share_or {w : World} {v : Value} {g cap B : Nat} {lb : Option Nat} (hlb : v.ownBlock = lb) (hg : (v.ownBlock = some g ∧ cap = capOf v) ∨ w.heap.size ≤ g) (hB : B ≤ w.heap.size) : lb = some g ∨ B ≤ g := by
  rcases hg with ⟨h, _⟩ | h
  · exact Or.inl (hlb.symm.trans h)
  · exact Or.inr (by omega)

theorem one2 {x : ByteArray} {y : Int} : ∀ u ∈ [Value.string x, .int .i64 y], u.oneCell' = true := by
  intro u hu; simp only [List.mem_cons, List.not_mem_nil, or_false] at hu; rcases hu with rfl | rfl <;> rfl
theorem one4 {x : ByteArray} {y : Int} : ∀ u ∈ [Value.string x, .int .i64 y, .string x, .int .i64 y], u.oneCell' = true := by
  intro u hu; simp only [List.mem_cons, List.not_mem_nil, or_false] at hu; rcases hu with rfl | rfl | rfl | rfl <;> rfl
theorem one6 {x : ByteArray} {y : Int} : ∀ u ∈ [Value.string x, .int .i64 y, .string x, .int .i64 y, .string x, .int .i64 y], u.oneCell' = true := by
  intro u hu; simp only [List.mem_cons, List.not_mem_nil, or_false] at hu; rcases hu with rfl | rfl | rfl | rfl | rfl | rfl <;> rfl

theorem Tryz.info102 : (Tryz.prog.info? 102).map (fun i => (i.zero, i.size, i.bytes)) = some (some (Value.slice none 0 0), 1, 24) := by kernel_rfl
theorem news_of1 {W : World} {b : Nat} {x : Value} (h0 : W.cell? ⟨b, 0, none⟩ = some x) : ∀ j u, [x][j]? = some u → W.cell? ((⟨b, 0, none⟩ : Addr).add j) = some u := by
  intro j u hj
  rw [Addr.add_lit, Nat.zero_add]
  match j, hj with
  | 0, hj => simp at hj; subst hj; exact h0
theorem two_kept (w : World) (g b i j : Nat) (u v : Value) (h : b ≠ g) : ((w.setCell ⟨g, i, none⟩ u).setCell ⟨g, j, none⟩ v).drew.heap[b]? = w.heap[b]? := by
  show ((w.setCell ⟨g, i, none⟩ u).setCell ⟨g, j, none⟩ v).heap[b]? = w.heap[b]?
  rw [Below.heap_setCell _ _ _ _ h, Below.heap_setCell _ _ _ _ h]

set_option maxRecDepth 20000 in
set_option maxHeartbeats 8000000 in
theorem mods_calls : ModsSaid := by
  intro F y ps nb la n lc w hk hn hbk hF hFy hl hd
  obtain ⟨ba, bc, svs, hy, hsl, hown, hbF, hsh⟩ := hbk
  have hnb : nb ≤ 140737488355328 := by omega
  have HALL := hide (And.intro hF (And.intro hFy (And.intro hd (And.intro hsl (And.intro hown (And.intro hbF hsh))))))
  have c1 : w.cell? ⟨y, 1, none⟩ = some (.slice ba nb bc) := by rw [cell_of_block hy]; rfl
  have hyl : y < w.heap.size := (Array.getElem?_eq_some_iff.1 hy).1
  have cM := mark_calls (nb : Int) (by omega) (by omega) w
  change Calls Tryz.prog 51 #[.int .i64 (nb : Int)] w (fun e w' => e = .returned (.agg #[.string (mk' nb).1, .int .i64 (mk' nb).2]) ∧ Below w.heap.size w w') at cM
  obtain ⟨z, hz⟩ : ∃ z, mk' nb = z := ⟨_, rfl⟩
  rw [hz] at cM
  have HZ := hide hz
  have HL := hide hl
  have HY := hide hy
  clear hz hl hy hF hFy hd hsl hown hbF hsh
  go_enter Tryz.func118, Tryz.ntmps118
  go_wp2_with fail
  refine cM.mono ?_
  rintro e W0 ⟨rfl, hb0⟩
  clear cM
  go_upto_region 1 with fail
  have hb1 : Below w.heap.size w (W0.alloc (.cells #[.string z.1, .int .i64 z.2] 33)) := hb0.alloc hb0.size _
  have z0 : (W0.alloc (.cells #[.string z.1, .int .i64 z.2] 33)).cell? ⟨W0.heap.size, 0, none⟩ = some (.string z.1) := by simp [go_sem]
  have z1 : (W0.alloc (.cells #[.string z.1, .int .i64 z.2] 33)).cell? ⟨W0.heap.size, 1, none⟩ = some (.int .i64 z.2) := by simp [go_sem]
  have sh0 : Shp (W0.alloc (.cells #[.string z.1, .int .i64 z.2] 33)) (.slice la n lc) n := (unhide HL).of_block (fun g hg => hb1.block g ((unhide HL).lt g hg))
  have hzs : (W0.alloc (.cells #[.string z.1, .int .i64 z.2] 33)).heap.size = W0.heap.size + 1 := by simp
  have hs0 := hb0.size
  generalize hW1 : W0.alloc (.cells #[.string z.1, .int .i64 z.2] 33) = W1
  rw [hW1] at hb1 z0 z1 sh0 hzs
  obtain ⟨zb, hzb⟩ : ∃ zb, W0.heap.size = zb := ⟨_, rfl⟩
  rw [hzb] at z0 z1 hzs hs0
  simp only [hzb]
  have hzl : zb < W1.heap.size := by omega
  obtain ⟨lb, hlb⟩ : ∃ lb, (Value.slice la n lc).ownBlock = lb := ⟨_, rfl⟩
  have hlbl : ∀ k, lb = some k → k < w.heap.size := fun k hk => (unhide HL).lt k (hlb.trans hk)
  have nez : ¬ lb = some zb := fun e => by have := hlbl zb e; omega
  have hw1s : w.heap.size ≤ W1.heap.size := hb1.size
  have S0 : W1.cell? ⟨zb, 0, none⟩ = some (.string z.1) ∧ W1.cell? ⟨zb, 1, none⟩ = some (.int .i64 z.2) ∧ zb < W1.heap.size ∧ Shp W1 (.slice la n lc) n := ⟨z0, z1, hzl, sh0⟩
  have HW := hide hW1
  have HB1 := hide hb1
  clear hW1 hzb hb1 hzs
  go_cut [5] (fun q wc => ∃ s g1 cp1 g2 cp2 g3 cp3, q = .slice (some ⟨s, 0, none⟩) 4 4 ∧ wc.heap[s]? = some (.cells #[.slice la n lc, .slice (some ⟨g1, 0, none⟩) (n + 1) cp1, .slice (some ⟨g2, 0, none⟩) (n + 2) cp2, .slice (some ⟨g3, 0, none⟩) (n + 3) cp3] 29 (0, 0)) ∧ W1.heap.size ≤ s ∧
      Shp wc (.slice la n lc) n ∧ Shp wc (.slice (some ⟨g1, 0, none⟩) (n + 1) cp1) (n + 1) ∧ Shp wc (.slice (some ⟨g2, 0, none⟩) (n + 2) cp2) (n + 2) ∧ Shp wc (.slice (some ⟨g3, 0, none⟩) (n + 3) cp3) (n + 3) ∧ (lb = some g1 ∨ W1.heap.size ≤ g1) ∧ (lb = some g2 ∨ W1.heap.size ≤ g2) ∧ (lb = some g3 ∨ W1.heap.size ≤ g3) ∧ Upd (fun k => lb = some k) W1 wc ∧ wc.cell? ⟨zb, 0, none⟩ = some (.string z.1) ∧ wc.cell? ⟨zb, 1, none⟩ = some (.int .i64 z.2))
  case first =>
    have S0d : W1.drew.cell? ⟨zb, 0, none⟩ = some (.string z.1) ∧ W1.drew.cell? ⟨zb, 1, none⟩ = some (.int .i64 z.2) ∧ zb < W1.drew.heap.size ∧ Shp W1.drew (.slice la n lc) n := S0
    have sd1 : ∀ o, (W1.alloc o).drew.cell? ⟨zb, 0, none⟩ = some (.string z.1) ∧ (W1.alloc o).drew.cell? ⟨zb, 1, none⟩ = some (.int .i64 z.2) ∧ zb < (W1.alloc o).drew.heap.size ∧ Shp (W1.alloc o).drew (.slice la n lc) n := fun o => sm_alloc o S0
    have sd2 : ∀ o p, ((W1.alloc o).alloc p).drew.cell? ⟨zb, 0, none⟩ = some (.string z.1) ∧ ((W1.alloc o).alloc p).drew.cell? ⟨zb, 1, none⟩ = some (.int .i64 z.2) ∧ zb < ((W1.alloc o).alloc p).drew.heap.size ∧ Shp ((W1.alloc o).alloc p).drew (.slice la n lc) n := fun o p => sm_alloc p (sm_alloc o S0)
    have sd3 : ∀ o p q, (((W1.alloc o).alloc p).alloc q).drew.cell? ⟨zb, 0, none⟩ = some (.string z.1) ∧ (((W1.alloc o).alloc p).alloc q).drew.cell? ⟨zb, 1, none⟩ = some (.int .i64 z.2) ∧ zb < (((W1.alloc o).alloc p).alloc q).drew.heap.size ∧ Shp (((W1.alloc o).alloc p).alloc q).drew (.slice la n lc) n := fun o p q => sm_alloc q (sm_alloc p (sm_alloc o S0))
    have shd1 : ∀ o, Shp (W1.alloc o).drew (.slice la n lc) n := fun o => (sd1 o).2.2.2
    have shd2 : ∀ o p, Shp ((W1.alloc o).alloc p).drew (.slice la n lc) n := fun o p => (sd2 o p).2.2.2
    have shd3 : ∀ o p q, Shp (((W1.alloc o).alloc p).alloc q).drew (.slice la n lc) n := fun o p q => (sd3 o p q).2.2.2
    go_region_held3 (fun w' => w'.cell? ⟨zb, 0, none⟩ = some (.string z.1) ∧ w'.cell? ⟨zb, 1, none⟩ = some (.int .i64 z.2) ∧ zb < w'.heap.size ∧ Shp w' (.slice la n lc) n)
      (first | with_reducible exact S0d | with_reducible exact sd1 _ | with_reducible exact sd2 _ _ | with_reducible exact sd3 _ _ _ | with_reducible exact S1 | with_reducible exact S2 | with_reducible exact S3 | with_reducible exact sm_alloc _ (by assumption))
      (first
        | (refine step_append_two _ rfl (.tmp 15) (.tmp 17) ?_ (.slice la n lc) n rfl ?_ ⟨_, 0, none⟩ 1 _ [.string z.1, .int .i64 z.2] rfl rfl ?_ one2 ?_ (by decide) ?_; (focus rfl); (focus (first | with_reducible exact shd1 _ | with_reducible exact shd2 _ _ | with_reducible exact shd3 _ _ _)); (focus (refine news_of2 ?_ ?_ <;> simp [go_sem])); (focus omega); intro g1 cp1 A1 sa1 sa hv1 hg1; have hu1 := hv1; rw [hlb] at hu1; have kc1 := hu1.cellK; have S1 := sm_upd (by first | with_reducible exact sd1 _ | with_reducible exact sd2 _ _ | with_reducible exact sd3 _ _ _) hu1 nez sa; have sz1 := hu1.size; simp at sz1; have U1 : Upd (fun k => lb = some k) W1 A1 := (by first | with_reducible exact (Upd.of_below (below_one W1 _)).drew.trans hu1 | with_reducible exact (Upd.of_below (below_two W1 _ _)).drew.trans hu1 | with_reducible exact (Upd.of_below ((below_two W1 _ _).alloc (by simp <;> omega) _)).drew.trans hu1); have T1 := U1.size; have hc1 := hide (share_cap (k := n + 1) hg1 (by first | with_reducible exact shd1 _ | with_reducible exact shd2 _ _ | with_reducible exact shd3 _ _ _)); have hq1 := hide (share_or (B := W1.heap.size) hlb hg1 (by first | omega | (simp; done) | (simp; omega))); clear hg1 hv1)
        | (refine step_append_two _ rfl (.tmp 19) (.tmp 22) ?_ (.slice la n lc) n rfl ?_ ⟨_, 0, none⟩ 2 _ [.string z.1, .int .i64 z.2, .string z.1, .int .i64 z.2] rfl rfl ?_ one4 ?_ (by decide) ?_; (focus rfl); (focus (first | with_reducible exact sa | with_reducible exact (sa.alloc _) | with_reducible exact ((sa.alloc _).alloc _))); (focus (refine news_of4 ?_ ?_ ?_ ?_ <;> (first | (focus (simp [go_sem]; done)) | (with_reducible refine cell_thru kc1 hlbl ?_ ?_ ?_; (focus (first | omega | (simp [go_sem]; done) | (simp [go_sem]; omega))); (focus (first | omega | (simp [go_sem]; done) | (simp [go_sem]; omega))); (focus (simp [go_sem]; done))) | (with_reducible refine cell_old ?_ (cell_thru kc1 hlbl ?_ ?_ ?_); (focus (first | omega | (simp [go_sem]; done) | (simp [go_sem]; omega))); (focus (first | omega | (simp [go_sem]; done) | (simp [go_sem]; omega))); (focus (first | omega | (simp [go_sem]; done) | (simp [go_sem]; omega))); (focus (simp [go_sem]; done)))))); (focus omega); intro g2 cp2 A2 sb2 sb hv2 hg2; have hu2 := hv2; rw [hlb] at hu2; have kc2 := hu2.cellK; have S2 := sm_upd (by assumption) hu2 nez sb; have sz2 := hu2.size; (try simp at sz2); have U2 : Upd (fun k => lb = some k) W1 A2 := (by first | with_reducible exact U1.trans hu2 | with_reducible exact (U1.trans (Upd.of_below (below_one A1 _))).trans hu2 | with_reducible exact (U1.trans (Upd.of_below (below_two A1 _ _))).trans hu2); have T2 := U2.size; have sb1 : Shp A2 (.slice (some ⟨g1, 0, none⟩) (n + 1) cp1) (n + 1) := Shp.keep (by first | with_reducible exact sa1 | with_reducible exact (sa1.alloc _) | with_reducible exact ((sa1.alloc _).alloc _)) hv2 (unhide hc1) sb; have hc2 := hide (share_cap (k := n + 2) hg2 (by first | with_reducible exact sa | with_reducible exact (sa.alloc _) | with_reducible exact ((sa.alloc _).alloc _))); have hq2 := hide (share_or (B := W1.heap.size) hlb hg2 (by first | omega | (simp; done) | (simp; omega))); clear hg2 hv2)
        | (refine step_append_two _ rfl (.tmp 24) (.tmp 28) ?_ (.slice la n lc) n rfl ?_ ⟨_, 0, none⟩ 3 _ [.string z.1, .int .i64 z.2, .string z.1, .int .i64 z.2, .string z.1, .int .i64 z.2] rfl rfl ?_ one6 ?_ (by decide) ?_; (focus rfl); (focus (first | with_reducible exact sb | with_reducible exact (sb.alloc _))); (focus (refine news_of6 ?_ ?_ ?_ ?_ ?_ ?_ <;> (first | (focus (simp [go_sem]; done)) | (with_reducible refine cell_thru kc2 hlbl ?_ ?_ ?_; (focus (first | omega | (simp [go_sem]; done) | (simp [go_sem]; omega))); (focus (first | omega | (simp [go_sem]; done) | (simp [go_sem]; omega))); (focus (simp [go_sem]; done))) | (with_reducible refine cell_thru kc2 hlbl ?_ ?_ (cell_thru kc1 hlbl ?_ ?_ ?_); (focus (first | omega | (simp [go_sem]; done) | (simp [go_sem]; omega))); (focus (first | omega | (simp [go_sem]; done) | (simp [go_sem]; omega))); (focus (first | omega | (simp [go_sem]; done) | (simp [go_sem]; omega))); (focus (first | omega | (simp [go_sem]; done) | (simp [go_sem]; omega))); (focus (simp [go_sem]; done))) | (with_reducible refine cell_thru kc2 hlbl ?_ ?_ (cell_old ?_ (cell_thru kc1 hlbl ?_ ?_ ?_)); (focus (first | omega | (simp [go_sem]; done) | (simp [go_sem]; omega))); (focus (first | omega | (simp [go_sem]; done) | (simp [go_sem]; omega))); (focus (first | omega | (simp [go_sem]; done) | (simp [go_sem]; omega))); (focus (first | omega | (simp [go_sem]; done) | (simp [go_sem]; omega))); (focus (first | omega | (simp [go_sem]; done) | (simp [go_sem]; omega))); (focus (simp [go_sem]; done)))))); (focus omega); intro g3 cp3 A3 sc3 sc hv3 hg3; have hu3 := hv3; rw [hlb] at hu3; have S3 := sm_upd (by assumption) hu3 nez sc; have U3 : Upd (fun k => lb = some k) W1 A3 := (by first | with_reducible exact U2.trans hu3 | with_reducible exact (U2.trans (Upd.of_below (below_one A2 _))).trans hu3); have T3 := U3.size; have sc1 : Shp A3 (.slice (some ⟨g1, 0, none⟩) (n + 1) cp1) (n + 1) := Shp.keep (by first | with_reducible exact sb1 | with_reducible exact (sb1.alloc _)) hv3 (unhide hc1) sc; have sc2 : Shp A3 (.slice (some ⟨g2, 0, none⟩) (n + 2) cp2) (n + 2) := Shp.keep (by first | with_reducible exact sb2 | with_reducible exact (sb2.alloc _)) hv3 (unhide hc2) sc; have hq3 := hide (share_or (B := W1.heap.size) hlb hg3 (by first | omega | (simp; done) | (simp; omega))); clear hg3 hv3))
    all_goals
      go_wp2_with fail
      go_meet
      have SF := sm_alloc (.cells #[.slice la n lc, .slice (some ⟨g1, 0, none⟩) (n + 1) cp1, .slice (some ⟨g2, 0, none⟩) (n + 2) cp2, .slice (some ⟨g3, 0, none⟩) (n + 3) cp3] 29) S3
      exact ⟨_, _, _, _, _, _, _, rfl, heap_alloc_new A3 _, T3, SF.2.2.2, sc1.alloc _, sc2.alloc _, sc3.alloc _, unhide hq1, unhide hq2, unhide hq3, U3.trans (Upd.of_below (below_one A3 _)), SF.1, SF.2.1⟩
  case rest =>
    obtain ⟨s, g1, cp1, g2, cp2, g3, cp3, rfl, hsb, hss, q0, q1, q2, q3, b1, b2, b3, hu, y0, y1⟩ := hcut
    clear S0 z0 z1 sh0
    obtain ⟨ls, hls⟩ : ∃ ls : Array Value, (#[.slice la n lc, .slice (some ⟨g1, 0, none⟩) (n + 1) cp1, .slice (some ⟨g2, 0, none⟩) (n + 2) cp2, .slice (some ⟨g3, 0, none⟩) (n + 3) cp3] : Array Value) = ls := ⟨_, rfl⟩
    have hlist : ∀ (j : Nat) lj, ls[j]? = some lj → j < 4 ∧ Shp wc lj (n + j) ∧ (∃ ad cp, lj = .slice ad (n + j) cp) ∧ ∀ g, lj.ownBlock = some g → lb = some g ∨ W1.heap.size ≤ g := by
      intro j lj hj
      rw [← hls] at hj
      match j, hj with
      | 0, hj => simp at hj; subst hj; exact ⟨by decide, q0, ⟨_, _, rfl⟩, fun g hg => Or.inl (hlb.symm.trans hg)⟩
      | 1, hj => simp at hj; subst hj; exact ⟨by decide, q1, ⟨_, _, rfl⟩, fun g hg => by cases hg; exact b1⟩
      | 2, hj => simp at hj; subst hj; exact ⟨by decide, q2, ⟨_, _, rfl⟩, fun g hg => by cases hg; exact b2⟩
      | 3, hj => simp at hj; subst hj; exact ⟨by decide, q3, ⟨_, _, rfl⟩, fun g hg => by cases hg; exact b3⟩
      | j + 4, hj => simp at hj
    have hall : ∀ j : Nat, j < 4 → ∃ lj, ls[j]? = some lj := by
      intro j hj
      rw [← hls]
      exact ⟨_, Array.getElem?_eq_getElem (by simpa using hj)⟩
    have hpre0 : ∀ (j : Nat) lj, ls[j]? = some lj → Pre wc lj (upto n 0 0 j) z := by
      intro j lj hj
      have e : upto n 0 0 j = 0 := by simp [upto]
      rw [e]
      exact (hlist j lj hj).2.1.pre z
    rw [hls] at hsb
    have HLI := hide hlist
    have HAL := hide hall
    have HPR := hide hpre0
    have HLS := hide hls
    have hsz : s < wc.heap.size := (Array.getElem?_eq_some_iff.1 hsb).1
    have hszz : zb < wc.heap.size := by have := hu.size; omega
    have HSB := hide hsb
    have HU := hide hu
    clear hlist hall hpre0 hls hsb hu q0 q1 q2 q3 b1 b2 b3
    have hcsz : W1.heap.size ≤ wc.heap.size := (unhide HU).size
    go_wp2
    go_loopw [6] (fun i wr => ∃ k : Nat, k ≤ 4 ∧ i = .int .i64 k ∧ wr.heap.size = wc.heap.size ∧ Hid (Upd (fun j => lb = some j) W1 wr ∧ wr.heap[s]? = some (.cells ls 29 (0, 0)) ∧ (∀ (j : Nat) lj, ls[j]? = some lj → Pre wr lj (upto n k 0 j) z)) ∧ wr.cell? ⟨zb, 0, none⟩ = some (.string z.1) ∧ wr.cell? ⟨zb, 1, none⟩ = some (.int .i64 z.2)) (fun i _ => 4 - (intOf i).toNat)
    case atStart => exact ⟨0, by omega, rfl, rfl, ⟨unhide HU, unhide HSB, unhide HPR⟩, y0, y1⟩
    case round =>
      clear y0 y1 HU HSB HPR
      obtain ⟨k, hk4, rfl, hwz, HI, z0, z1⟩ := hrel
      by_cases hlt : k < 4
      · have hlt' : (k : Int) < 4 := by omega
        obtain ⟨lk, hlk⟩ := unhide HAL k hlt
        obtain ⟨_, _, ⟨ad, cp, rfl⟩, hblk⟩ := unhide HLI k lk hlk
        obtain ⟨m, hm⟩ : ∃ m, n + k = m := ⟨_, rfl⟩
        rw [hm] at hlk hblk
        have hm47 : m * 24 ≤ 140737488355328 := by omega
        have HLK := hide hlk
        have HBK := hide hblk
        clear hlk hblk
        obtain ⟨wo, rfl⟩ : ∃ wo : World, wo = wr := ⟨_, rfl⟩
        go_wp2
        go_loopw [7] (fun i wr => ∃ q : Nat, q ≤ m ∧ i = .int .i64 q ∧ wr.heap.size = wc.heap.size ∧ Hid (Upd (fun j => lb = some j) W1 wr ∧ wr.heap[s]? = some (.cells ls 29 (0, 0)) ∧ (∀ (j : Nat) lj, ls[j]? = some lj → Pre wr lj (upto n k q j) z)) ∧ wr.cell? ⟨zb, 0, none⟩ = some (.string z.1) ∧ wr.cell? ⟨zb, 1, none⟩ = some (.int .i64 z.2)) (fun i _ => m - (intOf i).toNat)
        case atStart => exact ⟨0, by omega, rfl, hwz, HI, z0, z1⟩
        case round =>
          clear hwz HI z0 z1
          obtain ⟨q, hq, rfl, hwz, HI, z0, z1⟩ := hrel
          have cL : wr.cell? ⟨s, k, none⟩ = some (.slice ad m cp) := (cell_of_block (unhide HI).2.1).trans (unhide HLK)
          by_cases hqm : q < m
          · have hqm' : (q : Int) < (m : Int) := by omega
            obtain ⟨_, hshk, _, _⟩ := unhide HLI k _ (unhide HLK)
            rcases hshk with ⟨h0, h00⟩ | ⟨g, cap, arr, h0, _, _, hnc, _⟩
            · omega
            cases h0
            have hrow : Row wr g 33 (List.replicate q z) cp := by
              have := (unhide HI).2.2 k _ (unhide HLK)
              rw [upto, if_neg (by omega), if_pos rfl] at this
              rcases this with ⟨h0, _⟩ | ⟨g', n', cap', he, hr⟩
              · cases h0
              · cases he; exact hr
            have f0 := hrow.frozen (q * 2)
            have f1 := hrow.frozen (q * 2 + 1)
            obtain ⟨d0, e0⟩ := hrow.cell (j := q * 2) (by omega)
            obtain ⟨d1, e1⟩ := hrow.cell (j := q * 2 + 1) (by omega)
            have hgs : g ≠ s := by
              rintro rfl
              obtain ⟨arr', h1, _⟩ := hrow
              rw [(unhide HI).2.1] at h1
              cases h1
            have hgz : g ≠ zb := by
              rintro rfl
              rcases unhide HBK g rfl with h | h
              · exact nez h
              · omega
            clear hrow
            go_wp2
            go_region
            go_wp2
            go_roundw
            case rel =>
              have hp : lb = some g ∨ W1.heap.size ≤ g := unhide HBK g rfl
              refine ⟨q + 1, by omega, by go_num, by simpa [World.setCell] using hwz, ⟨(((unhide HI).1.setCell _ _ hp).setCell _ _ hp).drew, ?_, fun j lj hj => ?_⟩, ?_, ?_⟩
              · show ((wr.setCell ⟨g, q * 2, none⟩ (.string z.1)).setCell ⟨g, q * 2 + 1, none⟩ (.int .i64 z.2)).heap[s]? = _
                rw [Below.heap_setCell _ _ _ _ (Ne.symm hgs), Below.heap_setCell _ _ _ _ (Ne.symm hgs)]
                exact (unhide HI).2.1
              · exact (pre_write (unhide HI).2.2 (unhide HLK) (by omega) j lj hj).of_blocks (fun _ _ => rfl)
              · exact (World.cell?_of_block (w := wr) (two_kept wr g zb _ _ _ _ (Ne.symm hgz))).trans z0
              · exact (World.cell?_of_block (w := wr) (two_kept wr g zb _ _ _ _ (Ne.symm hgz))).trans z1
            case measure => simp [intOf]; omega
          · have hqe : m = q := by omega
            subst hqe
            go_wp2
            go_roundw
            case rel =>
              refine ⟨k + 1, by omega, by go_num, hwz, ⟨(unhide HI).1, (unhide HI).2.1, ?_⟩, z0, z1⟩
              intro j lj hj
              rw [← upto_next, hm]
              exact (unhide HI).2.2 j lj hj
            case measure => simp [intOf]; omega
      · obtain rfl : k = 4 := by omega
        obtain ⟨hF, hFy, hd, hsl, hown, hbF, hsh⟩ := unhide HALL
        have hbl : ∀ j, j < w.heap.size → ¬ lb = some j → wr.heap[j]? = w.heap[j]? := fun j hj hn => ((unhide HI).1.block j (by omega) hn).trans ((unhide HB1).block j hj)
        have hyk : wr.heap[y]? = some (.cells #[ps, .slice ba nb bc] 59 (0, 0)) := (hbl y hyl (fun e => (hd y (hlb.trans e)).2 rfl)).trans (unhide HY)
        have cY : wr.cell? ⟨y, 1, none⟩ = some (.slice ba nb bc) := by rw [cell_of_block hyk]; rfl
        have hownr : Own wr 102 1 (.slice ba nb bc) nb svs := hown.of_block (fun g hg => hbl g (hF g (hbF g hg)) (fun e => (hd g (hlb.trans e)).1 (hbF g hg)))
        have hynb : ¬ (Value.slice ba nb bc).ownBlock = some y := fun e => hFy (hbF y e)
        have hoA : Own (wr.alloc (.cells #[.slice (some ⟨s, 0, none⟩) 4 4] 102)) 102 1 (.slice ba nb bc) nb svs := hownr.of_block (fun g hg => Below.heap_alloc _ _ _ (by have := hF g (hbF g hg); omega))
        have HO := hide hoA
        have HYK := hide hyk
        have hwy : y < wr.heap.size := by omega
        clear hF hFy hd hsl hown hbF hsh hbl hownr hoA hyk hwz
        go_wp2_with (first
          | (at_builtin; go_loud (refine wpList_append_gen _ rfl (.tmp 57) (.tmp 59) 55 rfl 102 _ 1 24 Tryz.underlying55 Tryz.info102 rfl (by decide) (.slice ba nb bc) nb svs rfl (unhide HO) ⟨_, 0, none⟩ 1 1 [.slice (some ⟨s, 0, none⟩) 4 4] rfl rfl (news_of1 (by simp [go_sem])) (by intro x hx; simp at hx; subst hx; rfl) (by unfold maxLen; omega) (by omega) (Or.inl (by decide)) ?_; intro g cap W3 hrow hu3 hg; have kY : W3.heap[y]? = some (.cells #[ps, .slice ba nb bc] 59 (0, 0)) := (hu3.block y (by simp; omega) hynb).trans ((Below.heap_alloc _ _ _ hwy).trans (unhide HYK)); have cY3 : W3.cell? ⟨y, 1, none⟩ = some (.slice ba nb bc) := (by rw [cell_of_block kY]; rfl); have fY3 : W3.frozen? ⟨y, 1, none⟩ = false := (by simp [World.frozen?, kY]); have HR := hide hrow; have HU3 := hide hu3; have HG := hide hg; clear hrow hu3 hg kY)))
        go_end0
        obtain ⟨hF, hFy, hd, hsl, hown, hbF, hsh⟩ := unhide HALL
        refine ⟨rfl, ?_⟩
        have hls := unhide HLS
        have h1 := (unhide HI).1
        have h2 := (unhide HI).2.1
        rw [← hlb] at h1
        rw [← hls] at h2
        refine mods_end hF hFy hn hd (unhide HY) hsl hown hbF hsh (unhide HB1) h1 h2 hss ?_ (unhide HR) (unhide HU3) (unhide HG)
        intro j lj hj
        rw [hls] at hj
        obtain ⟨hj4, hsp, _, hbb⟩ := unhide HLI j lj hj
        have hp := (unhide HI).2.2 j lj hj
        rw [upto, if_pos hj4] at hp
        rw [← unhide HZ] at hp
        refine ⟨hp, ?_, fun g hg => by rw [hlb]; exact hbb g hg⟩
        rcases hsp with h0 | ⟨g', cap', arr, he, k1, k2, k3, k4⟩
        · exact Or.inl h0
        · subst he
          rcases hp with ⟨h0, _⟩ | ⟨g'', n'', c'', he, arr', k1', k2', k3', k4'⟩
          · cases h0
          · cases he
            exact Or.inr ⟨g', cap', arr', rfl, k1', k2', k3, k4⟩
end Go.Proofs.YtijpgamdpcgneaaGreat
