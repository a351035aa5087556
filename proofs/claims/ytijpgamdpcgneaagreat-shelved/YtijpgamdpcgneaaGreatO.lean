import Derived.Test.YtijpgamdpcgneaaGreatN
namespace Go.Proofs.YtijpgamdpcgneaaGreat
open Go.RowKit

theorem run_append_nilsrc (w : World) (t ty e : TypeId) (z : Value) (size bytes : Nat) (ht : Tryz.prog.underlying t = some (.slice e)) (hinfo : (Tryz.prog.info? e).map (fun i => (i.zero, i.size, i.bytes)) = some (some z, size, bytes))
    (v : Value) (n : Nat) (xs : List Value) (hown : Own w e size v n xs) : (Builtin.append_ #[t, t] ty #[v, .slice none 0 0]).run Tryz.prog w = .ok v w := by
  obtain ⟨i, hi, hz, hsize, hby⟩ := info_parts hinfo
  rcases hown with ⟨rfl, rfl, rfl⟩ | ⟨g, cap, rfl, h1, h2, _⟩
  · simp [Builtin.append_, run_underlying ht, sizeOf, typeInfo, hi, Builtin.lenOf, Builtin.firstCells]
  · simp [Builtin.append_, run_underlying ht, sizeOf, typeInfo, hi, Builtin.lenOf, Builtin.firstCells, h2, storeCells]

theorem wpList_append_nilsrc {ops : Array Oper} {rest : List Oper} {o : Oper} {a : Act} {Q : Exit → Act → World → Prop} (w : World) (hgd : o.guard = none) (s x : Operand) (t : TypeId)
    (ho : o.op = .call { callee := .builtin .append, args := #[s, x], argTypes := #[t, t] })
    (e : TypeId) (z : Value) (size bytes : Nat) (ht : Tryz.prog.underlying t = some (.slice e)) (hinfo : (Tryz.prog.info? e).map (fun i => (i.zero, i.size, i.bytes)) = some (some z, size, bytes))
    (v : Value) (n : Nat) (xs : List Value) (hs : a.eval s = v) (hown : Own w e size v n xs) (hx : a.eval x = .slice none 0 0)
    (h : wpList Tryz.prog ops Q rest (a.put o.dst v) w) : wpList Tryz.prog ops Q (o :: rest) a w :=
  wpList_plain hgd fun _ hK => by
    have hr := run_append_nilsrc w t o.type e z size bytes ht hinfo v n xs hown
    unfold Oper.wp execOp
    simp only [ho, resolve, invoke, builtin, Sem.run_bind, Sem.run_pure, Result.andThen_ok, List.map_toArray, List.map_cons, List.map_nil, hs, hx, hr]
    exact hK _ _ h

theorem run_append_none (w : World) (t ty e : TypeId) (z : Value) (size bytes : Nat) (ht : Tryz.prog.underlying t = some (.slice e)) (hinfo : (Tryz.prog.info? e).map (fun i => (i.zero, i.size, i.bytes)) = some (some z, size, bytes))
    (a : Addr) (c : Nat) : (Builtin.append_ #[t, t] ty #[.slice none 0 0, .slice (some a) 0 c]).run Tryz.prog w = .ok (.slice none 0 0) w := by
  obtain ⟨i, hi, hz, hsize, hby⟩ := info_parts hinfo
  simp [Builtin.append_, run_underlying ht, sizeOf, typeInfo, hi, Builtin.lenOf, Builtin.firstCells, loadCells, loadCellsFrom]

theorem wpList_append_none {ops : Array Oper} {rest : List Oper} {o : Oper} {a : Act} {Q : Exit → Act → World → Prop} (w : World) (hgd : o.guard = none) (s x : Operand) (t : TypeId)
    (ho : o.op = .call { callee := .builtin .append, args := #[s, x], argTypes := #[t, t] })
    (e : TypeId) (z : Value) (size bytes : Nat) (ht : Tryz.prog.underlying t = some (.slice e)) (hinfo : (Tryz.prog.info? e).map (fun i => (i.zero, i.size, i.bytes)) = some (some z, size, bytes))
    (hs : a.eval s = .slice none 0 0) (ad : Addr) (c : Nat) (hx : a.eval x = .slice (some ad) 0 c)
    (h : wpList Tryz.prog ops Q rest (a.put o.dst (.slice none 0 0)) w) : wpList Tryz.prog ops Q (o :: rest) a w :=
  wpList_plain hgd fun _ hK => by
    have hr := run_append_none w t o.type e z size bytes ht hinfo ad c
    unfold Oper.wp execOp
    simp only [ho, resolve, invoke, builtin, Sem.run_bind, Sem.run_pure, Result.andThen_ok, List.map_toArray, List.map_cons, List.map_nil, hs, hx, hr]
    exact hK _ _ h

theorem wpList_append_any {ops : Array Oper} {rest : List Oper} {o : Oper} {a : Act} {Q : Exit → Act → World → Prop} (w : World) (hgd : o.guard = none) (s x : Operand) (t : TypeId)
    (ho : o.op = .call { callee := .builtin .append, args := #[s, x], argTypes := #[t, t] })
    (e : TypeId) (z : Value) (size bytes : Nat) (ht : Tryz.prog.underlying t = some (.slice e)) (hinfo : (Tryz.prog.info? e).map (fun i => (i.zero, i.size, i.bytes)) = some (some z, size, bytes))
    (hzs : z.cells.size = size) (hsz : 0 < size) (hs : a.eval s = .slice none 0 0)
    (ad : Addr) (m c : Nat) (news : List Value) (hx : a.eval x = .slice (some ad) m c) (hl : news.length = m * size) (hnews : ∀ j u, news[j]? = some u → w.cell? (ad.add j) = some u) (h1 : ∀ u ∈ news, u.oneCell' = true)
    (h63 : m ≤ maxLen) (hbytes : m * bytes ≤ 140737488355328)
    (h : ∀ v' w', Own w' e size v' m news → Below w.heap.size w w' → (∀ g, v'.ownBlock = some g → w.heap.size ≤ g) → wpList Tryz.prog ops Q rest (a.put o.dst v') w') : wpList Tryz.prog ops Q (o :: rest) a w := by
  by_cases hm : m = 0
  · subst hm
    have hn : news = [] := List.eq_nil_of_length_eq_zero (by simpa using hl)
    subst hn
    exact wpList_append_none w hgd s x t ho e z size bytes ht hinfo hs ad c hx (h _ w (Or.inl ⟨rfl, rfl, rfl⟩) (Below.refl _ _) (by intro g hg; cases hg))
  · refine wpList_append_gen w hgd s x t ho e z size bytes ht hinfo hzs hsz _ 0 [] hs (Or.inl ⟨rfl, rfl, rfl⟩) ad m c news hx hl hnews h1 (by omega) (by simpa using hbytes) (Or.inl (by omega)) ?_
    intro g cap w' hrow hu hg
    rw [Nat.zero_add, List.nil_append] at hrow
    rw [Nat.zero_add]
    refine h _ w' (Or.inr ⟨g, cap, rfl, hrow⟩) ⟨hu.os, hu.tape, hu.output, hu.size, fun k hk => hu.block k hk (by intro e; cases e)⟩ ?_
    intro g' hg'
    cases hg'
    rcases hg with hg | hg
    · cases hg
    · exact hg

theorem Upd.below {S : Nat → Prop} {a b : World} {B : Nat} (h : Upd S a b) (hB : B ≤ a.heap.size) (hs : ∀ k, k < B → ¬ S k) : Below B a b :=
  ⟨h.os, h.tape, h.output, h.size, fun k hk => h.block k (by omega) (hs k hk)⟩

theorem Own.lt {w : World} {e : TypeId} {size n : Nat} {v : Value} {xs : List Value} (h : Own w e size v n xs) (g : Nat) (hg : v.ownBlock = some g) : g < w.heap.size := by
  rcases h with ⟨rfl, _⟩ | ⟨g', cap, rfl, h⟩
  · cases hg
  · cases hg
    exact h.lt

/-- The place of x in an ordered list, and the list with x in it: the document's answer. -/
def posL (x : Mo) : List Mo → Nat
  | [] => 0
  | y :: r => if lessM x y then 0 else posL x r + 1
def insL (x : Mo) (l : List Mo) : List Mo := l.take (posL x l) ++ [x] ++ l.drop (posL x l)
def srtTo (l : List Mo) : Nat → List Mo
  | 0 => []
  | k + 1 => match l[k]? with
    | some x => insL x (srtTo l k)
    | none => srtTo l k
def srt (l : List Mo) : List Mo := srtTo l l.length

theorem insL_length (x : Mo) (l : List Mo) : (insL x l).length = l.length + 1 := by
  simp [insL]; omega
theorem srtTo_length (l : List Mo) (k : Nat) (h : k ≤ l.length) : (srtTo l k).length = k := by
  induction k with
  | zero => rfl
  | succ k ih =>
    have : l[k]? = some l[k] := List.getElem?_eq_getElem (by omega)
    simp only [srtTo, this, insL_length, ih (by omega)]
theorem srtTo_succ {l : List Mo} {k : Nat} {x : Mo} (h : l[k]? = some x) : srtTo l (k + 1) = insL x (srtTo l k) := by
  simp [srtTo, h]
theorem posL_le (x : Mo) (l : List Mo) : posL x l ≤ l.length := by
  induction l with
  | nil => simp [posL]
  | cons y r ih => simp only [posL]; split <;> simp; omega
theorem posL_of {x : Mo} {l : List Mo} {k : Nat} (hlo : ∀ (j : Nat) y, l[j]? = some y → j < k → lessM x y = false) (hk : k = l.length ∨ ∃ y, l[k]? = some y ∧ lessM x y = true) : posL x l = k := by
  induction l generalizing k with
  | nil => rcases hk with rfl | ⟨y, hy, _⟩; rfl; simp at hy
  | cons a r ih =>
    cases k with
    | zero =>
      rcases hk with hk | ⟨y, hy, hl⟩
      · simp at hk
      · simp at hy; subst hy; simp [posL, hl]
    | succ k =>
      have h0 := hlo 0 a (by simp) (by omega)
      simp only [posL, h0]
      have := ih (k := k) (fun j y hj hjk => hlo (j + 1) y (by simpa using hj) (by omega)) (by
        rcases hk with hk | ⟨y, hy, hl⟩
        · exact Or.inl (by simpa using hk)
        · exact Or.inr ⟨y, by simpa using hy, hl⟩)
      simp [this]

set_option maxRecDepth 20000 in
set_option maxHeartbeats 2000000 in
theorem sorted_calls (v : Value) (xs : List Mo) (hx : xs.length ≤ 6) (w : World) (h : LstAt w v xs) :
    Calls Tryz.prog 117 #[v] w fun e w' => (∃ u, e = .returned u ∧ Own w' 33 2 u xs.length (cellsL (srt xs)) ∧ (∀ g, u.ownBlock = some g → w.heap.size ≤ g)) ∧ Below w.heap.size w w' := by
  obtain ⟨a, cap, rfl⟩ := h.length
  have H := hide h
  clear h
  go_enter Tryz.func117, Tryz.ntmps117
  go_wp2
  go_loopw [3, 4] (fun u i wr => ∃ k : Nat, k ≤ xs.length ∧ i = .int .i64 k ∧ Below w.heap.size w wr ∧ Own wr 33 2 u k (cellsL (srtTo xs k)) ∧ (∀ g, u.ownBlock = some g → w.heap.size ≤ g)) (fun _ i _ => xs.length - (intOf i).toNat)
  case atStart => exact ⟨0, Nat.zero_le _, rfl, Below.refl _ _, Or.inl ⟨rfl, rfl, rfl⟩, by intro g hg; cases hg⟩
  case round =>
    obtain ⟨k, hk, rfl, hbw, hown, hfr⟩ := hrel
    by_cases hlt : k < xs.length
    · obtain ⟨m, hm⟩ : ∃ m, xs[k]? = some m := ⟨_, List.getElem?_eq_getElem hlt⟩
      obtain ⟨b, off, cap', he, hb, hc⟩ := (unhide H).at (by intro e; subst e; simp at hlt)
      cases he
      have c0 := (hbw.cell (p := ⟨b, off + k * 2, none⟩) hb).trans (hc k m hm).1
      have c1 := (hbw.cell (p := ⟨b, off + k * 2 + 1, none⟩) hb).trans (hc k m hm).2
      clear hc
      have HM := hide hm
      clear hm
      have hlk := srtTo_length xs k (by omega)
      rcases hown with ⟨rfl, rfl, _⟩ | ⟨g, cp, rfl, hrow⟩
      · clear hlk hfr
        simp only [Nat.zero_mul, Nat.add_zero] at c0 c1
        obtain ⟨wo, rfl⟩ : ∃ wo : World, wo = wr := ⟨_, rfl⟩
        go_wp2
        go_loop [5] (fun i => i = .int .i64 0) (fun _ => 0)
        case atStart => rfl
        case round =>
          subst hrel
          go_wp2_with (first
            | (at_builtin; refine wpList_append_nilsrc _ rfl (.tmp 30) (.tmp 33) 29 rfl 33 _ 2 24 Tryz.underlying29 Tryz.info33 _ 0 [] rfl (Or.inl ⟨rfl, rfl, rfl⟩) rfl ?_)
            | (at_builtin; refine wpList_append_gen _ rfl (.tmp 35) (.tmp 40) 29 rfl 33 _ 2 24 Tryz.underlying29 Tryz.info33 rfl (by decide) _ 0 [] rfl (Or.inl ⟨rfl, rfl, rfl⟩) ⟨wo.heap.size, 0, none⟩ 1 1 (cellsL [m]) rfl rfl (by simp [cellsL, go_sem]) (cellsL_one _) (by decide) (by decide) (Or.inl (by decide)) ?_; intro g2 cp2 W2 hrow2 hu2 hg2; have hown2 := (Or.inr ⟨g2, cp2, rfl, hrow2⟩ : Own W2 33 2 (.slice (some ⟨g2, 0, none⟩) (0 + 1) cp2) (0 + 1) ([] ++ cellsL [m])))
            | (at_builtin; refine wpList_append_nilsrc _ rfl (.tmp 42) (.tmp 45) 29 rfl 33 _ 2 24 Tryz.underlying29 Tryz.info33 _ 1 (cellsL [m]) rfl hown2 rfl ?_))
          go_roundw
          case rel =>
            refine ⟨1, by omega, by go_num, ?_, Or.inr ⟨g2, cp2, rfl, ?_⟩, ?_⟩
            · exact (hbw.alloc hbw.size _).trans (hu2.below (by have := hbw.size; simp; omega) (by intro k _ e; cases e))
            · rw [srtTo_succ (unhide HM)]
              exact hrow2
            · intro g' hg'
              cases hg'
              rcases hg2 with hg2 | hg2
              · cases hg2
              · have := hbw.size
                have hg3 : wo.heap.size + 1 ≤ g2 := by simpa using hg2
                show w.heap.size ≤ g2
                omega
          case measure => simp [intOf]; omega
      · obtain ⟨L, hL⟩ : ∃ L, srtTo xs k = L := ⟨_, rfl⟩
        rw [hL] at hrow hlk
        have HL := hide hL
        have HK := hide hlk
        clear hL hlk
        have hgB := hfr g rfl
        have hgl := hrow.lt
        have hbs := hbw.size
        obtain ⟨wo, rfl⟩ : ∃ wo : World, wo = wr := ⟨_, rfl⟩
        have HR := hide hrow
        clear hrow hfr
        go_wp2
        go_loopw [5] (fun i wr => ∃ j : Nat, j ≤ k ∧ i = .int .i64 j ∧ Below wo.heap.size wo wr ∧ (∀ (n : Nat) y, L[n]? = some y → n < j → lessM m y = false)) (fun i _ => k - (intOf i).toNat)
        case atStart => exact ⟨0, Nat.zero_le _, rfl, Below.refl _ _, fun n _ _ h => by omega⟩
        case round =>
          obtain ⟨j, hj, rfl, hb2, hall⟩ := hrel
          have HA := hide hall
          clear hall
          by_cases hjk : j < k
          · obtain ⟨y, hy⟩ : ∃ y, L[j]? = some y := ⟨_, List.getElem?_eq_getElem (by rw [unhide HK]; exact hjk)⟩
            have e0 := (hb2.cell (p := ⟨g, j * 2, none⟩) hgl).trans ((unhide HR).cell (cellsL_at L j y hy).1)
            have e1 := (hb2.cell (p := ⟨g, j * 2 + 1, none⟩) hgl).trans ((unhide HR).cell (cellsL_at L j y hy).2)
            have a0 := (hb2.cell (p := ⟨b, off + k * 2, none⟩) (by show b < _; omega)).trans c0
            have a1 := (hb2.cell (p := ⟨b, off + k * 2 + 1, none⟩) (by show b < _; omega)).trans c1
            have HY := hide hy
            clear hy
            have cS := fun W => less_calls m y W
            simp only [mv] at cS
            obtain ⟨q, hq⟩ : ∃ q, lessM m y = q := ⟨_, rfl⟩
            simp only [hq] at cS
            have HQ := hide hq
            clear hq
            have i1 : (k : Int) < (xs.length : Int) := by omega
            have i2 : (j : Int) < (k : Int) := by omega
            have i3 : (0 : Int) ≤ (k : Int) := by omega
            have i4 : (0 : Int) ≤ (j : Int) := by omega
            have hb2s := hb2.size
            go_wp2
            go_region_held3 (fun w' => w'.cell? ⟨b, off + k * 2, none⟩ = some (.string m.1) ∧ w'.cell? ⟨b, off + k * 2 + 1, none⟩ = some (.int .i64 m.2) ∧ w'.cell? ⟨g, j * 2, none⟩ = some (.string y.1) ∧ w'.cell? ⟨g, j * 2 + 1, none⟩ = some (.int .i64 y.2))
              (first | (simp [go_sem, a0, a1, e0, e1]; done) | (simp [go_sem, *]; done))
              (first | (go_at_call 152; refine (cS _).mono ?_; rintro e W' ⟨rfl, hb'⟩; have k0 := hb'.cell (p := ⟨b, off + k * 2, none⟩) (by show b < wr.heap.size; omega); have k1 := hb'.cell (p := ⟨b, off + k * 2 + 1, none⟩) (by show b < wr.heap.size; omega); have k2 := hb'.cell (p := ⟨g, j * 2, none⟩) (by show g < wr.heap.size; omega); have k3 := hb'.cell (p := ⟨g, j * 2 + 1, none⟩) (by show g < wr.heap.size; omega)))
            cases q
            · go_wp2
              go_roundw
              case rel =>
                refine ⟨j + 1, by omega, by go_num, hb2.drew.trans (hb'.mono (by show _ ≤ wr.heap.size; omega)), ?_⟩
                intro n z hn hnj
                by_cases hnj' : n < j
                · exact unhide HA n z hn hnj'
                · obtain rfl : n = j := by omega
                  rw [unhide HY] at hn
                  cases hn
                  exact unhide HQ
              case measure => simp [intOf]; omega
            · clear k0 k1 k2 k3 e0 e1 a0 a1 cS
              have hbX : Below wo.heap.size wo W' := hb2.drew.trans (hb'.mono (by show _ ≤ wr.heap.size; omega))
              have hpos : Hid (posL m L = j) := posL_of (unhide HA) (Or.inr ⟨y, unhide HY, unhide HQ⟩)
              have gX := (unhide HR).of_block (w' := W') (hbX.block g hgl)
              have hjc : j ≤ cp := by have := gX.2.1; omega
              have hkc : k ≤ cp := gX.2.1
              have hsrc1 : ∀ n u, (cellsL (L.take j))[n]? = some u → (W').cell? ((⟨g, 0, none⟩ : Addr).add n) = some u := by
                intro n u hn
                rw [Addr.add_lit, Nat.zero_add]
                refine gX.cell ?_
                rw [← List.take_append_drop j L, cellsL_append]
                rw [List.getElem?_append_left (List.getElem?_eq_some_iff.1 hn).1]
                exact hn
              have hlen1 : (cellsL (L.take j)).length = j * 2 := by rw [cellsL_length, List.length_take, unhide HK, Nat.min_eq_left hj]
              have hlen3 : (cellsL (L.drop j)).length = (k - j) * 2 := by rw [cellsL_length, List.length_drop, unhide HK]
              have hsrc3 : ∀ W3 : World, W3.heap[g]? = (W').heap[g]? → ∀ n u, (cellsL (L.drop j))[n]? = some u → W3.cell? ((⟨g, j * 2, none⟩ : Addr).add n) = some u := by
                intro W3 hW3 n u hn
                rw [Addr.add_lit]
                refine (gX.of_block hW3).cell ?_
                rw [← List.take_append_drop j L, cellsL_append, List.getElem?_append_right (by omega), hlen1, Nat.add_sub_cancel_left]
                exact hn
              have hsX := hbX.size
              have HSRC1 := hide hsrc1
              have HSRC3 := hide hsrc3
              have HG := hide gX
              clear hsrc1 hsrc3 gX
              go_wp2_with (first
                | (at_builtin; refine wpList_append_any _ rfl (.tmp 30) (.tmp 33) 29 rfl 33 _ 2 24 Tryz.underlying29 Tryz.info33 rfl (by decide) rfl ⟨g, 0, none⟩ j cp (cellsL (L.take j)) rfl hlen1 (unhide HSRC1) (cellsL_one _) (by unfold maxLen; omega) (by omega) ?_; intro v1 W1 hown1 hb1 hf1; have s1 := hb1.size; have d0 := (hb1.cell (p := ⟨b, off + k * 2, none⟩) (by show b < _; omega)).trans ((hbX.cell (p := ⟨b, off + k * 2, none⟩) (by show b < _; omega)).trans c0); have d1 := (hb1.cell (p := ⟨b, off + k * 2 + 1, none⟩) (by show b < _; omega)).trans ((hbX.cell (p := ⟨b, off + k * 2 + 1, none⟩) (by show b < _; omega)).trans c1); have hown1' := hown1.of_block (w' := W1.alloc (.cells #[.string m.1, .int .i64 m.2] 33)) (fun q hq => Below.heap_alloc _ _ _ (hown1.lt q hq)))
                | (at_builtin; refine wpList_append_gen _ rfl (.tmp 35) (.tmp 40) 29 rfl 33 _ 2 24 Tryz.underlying29 Tryz.info33 rfl (by decide) _ j (cellsL (L.take j)) rfl hown1' ⟨W1.heap.size, 0, none⟩ 1 1 (cellsL [m]) rfl rfl (by simp [cellsL, go_sem]) (cellsL_one _) (by unfold maxLen; omega) (by omega) (Or.inl (by decide)) ?_; intro g2 cp2 W2 hrow2 hu2 hg2; have hgne : ∀ q, v1.ownBlock = some q → q ≠ g := (fun q hq e => by have := hf1 q hq; omega); have hg2g : W2.heap[g]? = (W').heap[g]? := ((hu2.block g (by simp; omega) (fun e => hgne g e rfl)).trans (Below.heap_alloc _ _ _ (by omega))).trans (hb1.block g (by omega)))
                | (at_builtin; refine wpList_append_gen _ rfl (.tmp 42) (.tmp 45) 29 rfl 33 _ 2 24 Tryz.underlying29 Tryz.info33 rfl (by decide) (.slice (some ⟨g2, 0, none⟩) (j + 1) cp2) (j + 1) (cellsL (L.take j) ++ cellsL [m]) rfl (Or.inr ⟨g2, cp2, rfl, hrow2⟩) ⟨g, j * 2, none⟩ (k - j) (cp - j) (cellsL (L.drop j)) rfl hlen3 (unhide HSRC3 W2 hg2g) (cellsL_one _) (by unfold maxLen; omega) (by omega) (Or.inr (by intro e; cases e)) ?_; intro g3 cp3 W3 hrow3 hu3 hg3))
              go_roundw
              case rel =>
                have hfin : cellsL (srtTo xs (k + 1)) = cellsL (L.take j) ++ cellsL [m] ++ cellsL (L.drop j) := by
                  rw [srtTo_succ (unhide HM), unhide HL, insL, unhide hpos, cellsL_append, cellsL_append]
                have hf2 : w.heap.size ≤ g2 := by
                  rcases hg2 with hg2 | hg2
                  · have := hf1 g2 hg2; omega
                  · have hg4 : W1.heap.size + 1 ≤ g2 := by simpa using hg2
                    omega
                have hB2 : Below w.heap.size w W2 := by
                  refine ((hbw.trans (hbX.mono hbs)).trans ((hb1.mono (by omega)))).trans ?_
                  refine (below_one W1 _).mono (by omega) |>.trans (hu2.below (by simp; omega) ?_)
                  intro q hq e
                  have := hf1 q e
                  omega
                refine ⟨k + 1, by omega, by go_num, ?_, Or.inr ⟨g3, cp3, ?_, ?_⟩, ?_⟩
                · refine hB2.trans (hu3.below hB2.size ?_)
                  intro q hq e
                  have e' : g2 = q := by simpa [Value.ownBlock] using e
                  omega
                · rw [show j + 1 + (k - j) = k + 1 by omega]
                · rw [hfin]
                  rw [show j + 1 + (k - j) = k + 1 by omega] at hrow3
                  exact hrow3
                · intro q hq
                  cases hq
                  rcases hg3 with hg3 | hg3
                  · cases hg3
                    exact hf2
                  · have := hB2.size
                    show w.heap.size ≤ g3
                    omega
              case measure => simp [intOf]; omega
          · have hbX := hb2
            obtain rfl : j = k := by omega
            by_cases hcj : cp = j
            · have hcj' : j = cp := hcj.symm
              subst hcj'
              have hpos : Hid (posL m L = j) := posL_of (unhide HA) (Or.inl (unhide HK).symm)
              have gX := (unhide HR).of_block (w' := wr) (hbX.block g hgl)
              have hjc : j ≤ j := by have := gX.2.1; omega
              have hkc : j ≤ j := gX.2.1
              have hsrc1 : ∀ n u, (cellsL (L.take j))[n]? = some u → (wr).cell? ((⟨g, 0, none⟩ : Addr).add n) = some u := by
                intro n u hn
                rw [Addr.add_lit, Nat.zero_add]
                refine gX.cell ?_
                rw [← List.take_append_drop j L, cellsL_append]
                rw [List.getElem?_append_left (List.getElem?_eq_some_iff.1 hn).1]
                exact hn
              have hlen1 : (cellsL (L.take j)).length = j * 2 := by rw [cellsL_length, List.length_take, unhide HK, Nat.min_eq_left hj]
              have hlen3' : (cellsL (L.drop j)).length = 0 * 2 := by rw [cellsL_length, List.length_drop, unhide HK, Nat.sub_self]
              have hsrc3 : ∀ W3 : World, W3.heap[g]? = (wr).heap[g]? → ∀ n u, (cellsL (L.drop j))[n]? = some u → W3.cell? ((⟨g, j * 2, none⟩ : Addr).add n) = some u := by
                intro W3 hW3 n u hn
                rw [Addr.add_lit]
                refine (gX.of_block hW3).cell ?_
                rw [← List.take_append_drop j L, cellsL_append, List.getElem?_append_right (by omega), hlen1, Nat.add_sub_cancel_left]
                exact hn
              have hsX := hbX.size
              have HSRC1 := hide hsrc1
              have HSRC3 := hide hsrc3
              have HG := hide gX
              clear hsrc1 hsrc3 gX
              go_wp2_with (first
                | (at_builtin; refine wpList_append_any _ rfl (.tmp 30) (.tmp 33) 29 rfl 33 _ 2 24 Tryz.underlying29 Tryz.info33 rfl (by decide) rfl ⟨g, 0, none⟩ j j (cellsL (L.take j)) rfl hlen1 (unhide HSRC1) (cellsL_one _) (by unfold maxLen; omega) (by omega) ?_; intro v1 W1 hown1 hb1 hf1; have s1 := hb1.size; have d0 := (hb1.cell (p := ⟨b, off + j * 2, none⟩) (by show b < _; omega)).trans ((hbX.cell (p := ⟨b, off + j * 2, none⟩) (by show b < _; omega)).trans c0); have d1 := (hb1.cell (p := ⟨b, off + j * 2 + 1, none⟩) (by show b < _; omega)).trans ((hbX.cell (p := ⟨b, off + j * 2 + 1, none⟩) (by show b < _; omega)).trans c1); have hown1' := hown1.of_block (w' := W1.alloc (.cells #[.string m.1, .int .i64 m.2] 33)) (fun q hq => Below.heap_alloc _ _ _ (hown1.lt q hq)))
                | (at_builtin; refine wpList_append_gen _ rfl (.tmp 35) (.tmp 40) 29 rfl 33 _ 2 24 Tryz.underlying29 Tryz.info33 rfl (by decide) _ j (cellsL (L.take j)) rfl hown1' ⟨W1.heap.size, 0, none⟩ 1 1 (cellsL [m]) rfl rfl (by simp [cellsL, go_sem]) (cellsL_one _) (by unfold maxLen; omega) (by omega) (Or.inl (by decide)) ?_; intro g2 cp2 W2 hrow2 hu2 hg2; have hgne : ∀ q, v1.ownBlock = some q → q ≠ g := (fun q hq e => by have := hf1 q hq; omega); have hg2g : W2.heap[g]? = (wr).heap[g]? := ((hu2.block g (by simp; omega) (fun e => hgne g e rfl)).trans (Below.heap_alloc _ _ _ (by omega))).trans (hb1.block g (by omega)))
                | (at_builtin; (refine wpList_append_gen _ rfl (.tmp 42) (.tmp 45) 29 rfl 33 _ 2 24 Tryz.underlying29 Tryz.info33 rfl (by decide) (.slice (some ⟨g2, 0, none⟩) (j + 1) cp2) (j + 1) (cellsL (L.take j) ++ cellsL [m]) rfl (Or.inr ⟨g2, cp2, rfl, hrow2⟩) _ 0 _ [] rfl rfl (by intro n u hn; simp at hn) (by simp) (by unfold maxLen; omega) (by omega) (Or.inr (by intro e; cases e)) ?_); intro g3 cp3 W3 hrow3 hu3 hg3))
              go_roundw
              case rel =>
                have hfin : cellsL (srtTo xs (j + 1)) = cellsL (L.take j) ++ cellsL [m] ++ cellsL (L.drop j) := by
                  rw [srtTo_succ (unhide HM), unhide HL, insL, unhide hpos, cellsL_append, cellsL_append]
                have hf2 : w.heap.size ≤ g2 := by
                  rcases hg2 with hg2 | hg2
                  · have := hf1 g2 hg2; omega
                  · have hg4 : W1.heap.size + 1 ≤ g2 := by simpa using hg2
                    omega
                have hB2 : Below w.heap.size w W2 := by
                  refine ((hbw.trans (hbX.mono hbs)).trans ((hb1.mono (by omega)))).trans ?_
                  refine (below_one W1 _).mono (by omega) |>.trans (hu2.below (by simp; omega) ?_)
                  intro q hq e
                  have := hf1 q e
                  omega
                refine ⟨j + 1, by omega, by go_num, ?_, Or.inr ⟨g3, cp3, ?_, ?_⟩, ?_⟩
                · refine hB2.trans (hu3.below hB2.size ?_)
                  intro q hq e
                  have e' : g2 = q := by simpa [Value.ownBlock] using e
                  omega
                · rw [show j + 1 + 0 = j + 1 from rfl]
                · rw [hfin, show L.drop j = [] from List.drop_of_length_le (by rw [unhide HK]; exact Nat.le_refl _)]
                  rw [show j + 1 + 0 = j + 1 from rfl] at hrow3
                  exact hrow3
                · intro q hq
                  cases hq
                  rcases hg3 with hg3 | hg3
                  · cases hg3
                    exact hf2
                  · have := hB2.size
                    show w.heap.size ≤ g3
                    omega
              case measure => simp [intOf]; omega
            ·
              have hpos : Hid (posL m L = j) := posL_of (unhide HA) (Or.inl (unhide HK).symm)
              have gX := (unhide HR).of_block (w' := wr) (hbX.block g hgl)
              have hjc : j ≤ cp := by have := gX.2.1; omega
              have hkc : j ≤ cp := gX.2.1
              have hsrc1 : ∀ n u, (cellsL (L.take j))[n]? = some u → (wr).cell? ((⟨g, 0, none⟩ : Addr).add n) = some u := by
                intro n u hn
                rw [Addr.add_lit, Nat.zero_add]
                refine gX.cell ?_
                rw [← List.take_append_drop j L, cellsL_append]
                rw [List.getElem?_append_left (List.getElem?_eq_some_iff.1 hn).1]
                exact hn
              have hlen1 : (cellsL (L.take j)).length = j * 2 := by rw [cellsL_length, List.length_take, unhide HK, Nat.min_eq_left hj]
              have hlen3' : (cellsL (L.drop j)).length = 0 * 2 := by rw [cellsL_length, List.length_drop, unhide HK, Nat.sub_self]
              have hsrc3 : ∀ W3 : World, W3.heap[g]? = (wr).heap[g]? → ∀ n u, (cellsL (L.drop j))[n]? = some u → W3.cell? ((⟨g, j * 2, none⟩ : Addr).add n) = some u := by
                intro W3 hW3 n u hn
                rw [Addr.add_lit]
                refine (gX.of_block hW3).cell ?_
                rw [← List.take_append_drop j L, cellsL_append, List.getElem?_append_right (by omega), hlen1, Nat.add_sub_cancel_left]
                exact hn
              have hsX := hbX.size
              have HSRC1 := hide hsrc1
              have HSRC3 := hide hsrc3
              have HG := hide gX
              clear hsrc1 hsrc3 gX
              go_wp2_with (first
                | (at_builtin; refine wpList_append_any _ rfl (.tmp 30) (.tmp 33) 29 rfl 33 _ 2 24 Tryz.underlying29 Tryz.info33 rfl (by decide) rfl ⟨g, 0, none⟩ j cp (cellsL (L.take j)) rfl hlen1 (unhide HSRC1) (cellsL_one _) (by unfold maxLen; omega) (by omega) ?_; intro v1 W1 hown1 hb1 hf1; have s1 := hb1.size; have d0 := (hb1.cell (p := ⟨b, off + j * 2, none⟩) (by show b < _; omega)).trans ((hbX.cell (p := ⟨b, off + j * 2, none⟩) (by show b < _; omega)).trans c0); have d1 := (hb1.cell (p := ⟨b, off + j * 2 + 1, none⟩) (by show b < _; omega)).trans ((hbX.cell (p := ⟨b, off + j * 2 + 1, none⟩) (by show b < _; omega)).trans c1); have hown1' := hown1.of_block (w' := W1.alloc (.cells #[.string m.1, .int .i64 m.2] 33)) (fun q hq => Below.heap_alloc _ _ _ (hown1.lt q hq)))
                | (at_builtin; refine wpList_append_gen _ rfl (.tmp 35) (.tmp 40) 29 rfl 33 _ 2 24 Tryz.underlying29 Tryz.info33 rfl (by decide) _ j (cellsL (L.take j)) rfl hown1' ⟨W1.heap.size, 0, none⟩ 1 1 (cellsL [m]) rfl rfl (by simp [cellsL, go_sem]) (cellsL_one _) (by unfold maxLen; omega) (by omega) (Or.inl (by decide)) ?_; intro g2 cp2 W2 hrow2 hu2 hg2; have hgne : ∀ q, v1.ownBlock = some q → q ≠ g := (fun q hq e => by have := hf1 q hq; omega); have hg2g : W2.heap[g]? = (wr).heap[g]? := ((hu2.block g (by simp; omega) (fun e => hgne g e rfl)).trans (Below.heap_alloc _ _ _ (by omega))).trans (hb1.block g (by omega)))
                | (at_builtin; (refine wpList_append_gen _ rfl (.tmp 42) (.tmp 45) 29 rfl 33 _ 2 24 Tryz.underlying29 Tryz.info33 rfl (by decide) (.slice (some ⟨g2, 0, none⟩) (j + 1) cp2) (j + 1) (cellsL (L.take j) ++ cellsL [m]) rfl (Or.inr ⟨g2, cp2, rfl, hrow2⟩) _ 0 _ [] rfl rfl (by intro n u hn; simp at hn) (by simp) (by unfold maxLen; omega) (by omega) (Or.inr (by intro e; cases e)) ?_); intro g3 cp3 W3 hrow3 hu3 hg3))
              go_roundw
              case rel =>
                have hfin : cellsL (srtTo xs (j + 1)) = cellsL (L.take j) ++ cellsL [m] ++ cellsL (L.drop j) := by
                  rw [srtTo_succ (unhide HM), unhide HL, insL, unhide hpos, cellsL_append, cellsL_append]
                have hf2 : w.heap.size ≤ g2 := by
                  rcases hg2 with hg2 | hg2
                  · have := hf1 g2 hg2; omega
                  · have hg4 : W1.heap.size + 1 ≤ g2 := by simpa using hg2
                    omega
                have hB2 : Below w.heap.size w W2 := by
                  refine ((hbw.trans (hbX.mono hbs)).trans ((hb1.mono (by omega)))).trans ?_
                  refine (below_one W1 _).mono (by omega) |>.trans (hu2.below (by simp; omega) ?_)
                  intro q hq e
                  have := hf1 q e
                  omega
                refine ⟨j + 1, by omega, by go_num, ?_, Or.inr ⟨g3, cp3, ?_, ?_⟩, ?_⟩
                · refine hB2.trans (hu3.below hB2.size ?_)
                  intro q hq e
                  have e' : g2 = q := by simpa [Value.ownBlock] using e
                  omega
                · rw [show j + 1 + 0 = j + 1 from rfl]
                · rw [hfin, show L.drop j = [] from List.drop_of_length_le (by rw [unhide HK]; exact Nat.le_refl _)]
                  rw [show j + 1 + 0 = j + 1 from rfl] at hrow3
                  exact hrow3
                · intro q hq
                  cases hq
                  rcases hg3 with hg3 | hg3
                  · cases hg3
                    exact hf2
                  · have := hB2.size
                    show w.heap.size ≤ g3
                    omega
              case measure => simp [intOf]; omega
    · go_wp2
      go_ret
      obtain rfl : k = xs.length := by omega
      exact ⟨⟨_, rfl, hown, hfr⟩, hbw⟩
end Go.Proofs.YtijpgamdpcgneaaGreat
