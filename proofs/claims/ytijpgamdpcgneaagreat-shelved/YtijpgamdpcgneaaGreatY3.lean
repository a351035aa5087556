import Derived.Test.YtijpgamdpcgneaaGreatY2
namespace Go.Proofs.YtijpgamdpcgneaaGreat
open Go.RowKit Go.MapKept

def latTo (ents : List En) (p : ByteArray) (k : Nat) : Int := (ents.take k).foldl (fun n e => if hit p e then max n e.m.2 else n) 0
theorem latTo_succ {ents : List En} {p : ByteArray} {k : Nat} {e : En} (h : ents[k]? = some e) : latTo ents p (k + 1) = if hit p e then max (latTo ents p k) e.m.2 else latTo ents p k := by
  rw [latTo, List.take_add_one, h, List.foldl_append]
  rfl

set_option maxRecDepth 20000 in
set_option maxHeartbeats 1000000 in
theorem RLatest_calls (w : World) (F : Nat → Prop) (a : Nat) (ents : List En) (hl : ents.length ≤ 60) (p : ByteArray) (h : RSh w F a ents) (hF : ∀ k, F k → k < w.heap.size) :
    Calls Tryz.prog 80 #[.pointer (some ⟨a, 0, none⟩), .string p] w fun e w' => e = .returned (.tuple #[.int .i64 (latestR ents p).1, .int .i64 (latestR ents p).2]) ∧ Below w.heap.size w w' := by
  obtain ⟨v, us, h1, h2, h3, h4, h5, h6⟩ := h
  have hal := hF a h2
  have c0 : w.cell? ⟨a, 0, none⟩ = some v := by rw [cell_of_block h1]; rfl
  clear h1 h6
  obtain ⟨R, hR⟩ : ∃ R, latestR ents p = R := ⟨_, rfl⟩
  rw [hR]
  have HR := hide hR
  clear hR
  rcases h4 with ⟨rfl, hn, _⟩ | ⟨g, cp, rfl, hrow⟩
  · have hnil : ents = [] := List.eq_nil_of_length_eq_zero hn
    have HNIL := hide hnil
    clear h5 hn hnil
    go_enter Tryz.func80, Tryz.ntmps80
    go_wp2
    go_loop [6, 7] (fun n i => n = .int .i64 0 ∧ i = .int .i64 0) (fun _ _ => 0)
    case atStart => exact ⟨rfl, rfl⟩
    case round =>
      obtain ⟨rfl, rfl⟩ := hrel
      go_wp2
      go_ret2
      refine ⟨?_, Below.refl _ _⟩
      rw [← unhide HR, unhide HNIL]
      rfl
  · have hgl : g < w.heap.size := hF g (h5 g rfl)
    have HROW := hide hrow
    clear hrow h5
    go_enter Tryz.func80, Tryz.ntmps80
    go_wp2
    go_loopw [6, 7] (fun n i wr => ∃ k : Nat, k ≤ ents.length ∧ i = .int .i64 k ∧ n = .int .i64 (latTo ents p k) ∧ Below w.heap.size w wr) (fun _ i _ => ents.length - (intOf i).toNat)
    case atStart => exact ⟨0, Nat.zero_le _, rfl, rfl, Below.refl _ _⟩
    case round =>
      obtain ⟨k, hk, rfl, rfl, hbw⟩ := hrel
      have cA := (hbw.cell (p := ⟨a, 0, none⟩) hal).trans c0
      obtain ⟨cur, hcur⟩ : ∃ cur, latTo ents p k = cur := ⟨_, rfl⟩
      rw [hcur]
      have HC := hide hcur
      clear hcur
      by_cases hlt : k < ents.length
      · obtain ⟨e, he⟩ : ∃ e, ents[k]? = some e := ⟨_, List.getElem?_eq_getElem hlt⟩
        obtain ⟨u, hu⟩ : ∃ u, us[k]? = some u := ⟨_, List.getElem?_eq_getElem (by omega)⟩
        obtain ⟨t0, t1, _, t3⟩ := cellsE_at ents us k e u he hu
        have d0 := (hbw.cell (p := ⟨g, k * 4, none⟩) hgl).trans ((unhide HROW).cell t0)
        have d1 := (hbw.cell (p := ⟨g, k * 4 + 1, none⟩) hgl).trans ((unhide HROW).cell t1)
        have d3 := (hbw.cell (p := ⟨g, k * 4 + 3, none⟩) hgl).trans ((unhide HROW).cell t3)
        have hst := latTo_succ (p := p) he
        rw [unhide HC] at hst
        have HST := hide hst
        clear t0 t1 t3 he hu hst
        obtain ⟨q, hq⟩ : ∃ q, e.ret = q := ⟨_, rfl⟩
        rw [hq] at d3
        have HQ := hide hq
        clear hq
        by_cases hpe : e.m.1.toList = p.toList
        · have hpb : (e.m.1.toList == p.toList) = true := by simpa using hpe
          have HPE := hide hpe
          clear hpe
          cases q
          · have hh : Hid (hit p e = true) := by show _ = true; simp [hit, unhide HPE, unhide HQ]
            go_wp2
            go_roundw
            case rel =>
              refine ⟨k + 1, by omega, by go_num, ?_, hbw⟩
              rw [unhide HST, if_pos (unhide hh), show (if cur < e.m.2 then e.m.2 else cur) = max cur e.m.2 by split <;> omega]
            case measure => simp [intOf]; omega
          · go_wp2
            go_roundw
            case rel =>
              refine ⟨k + 1, by omega, by go_num, ?_, hbw⟩
              rw [unhide HST, if_neg (by simp [hit, unhide HQ])]
            case measure => simp [intOf]; omega
        · have hpb : (e.m.1.toList == p.toList) = false := by simpa using hpe
          have HPE := hide hpe
          clear hpe
          go_wp2
          go_roundw
          case rel =>
            refine ⟨k + 1, by omega, by go_num, ?_, hbw⟩
            rw [unhide HST, if_neg (by simp [hit, unhide HPE])]
          case measure => simp [intOf]; omega
      · have hfin : Hid (cur = latestE ents p) := by
          show cur = _
          rw [← unhide HC, latTo, List.take_of_length_le (by omega), latestE]
        go_wp2
        · go_ret2
          have h0 : (cur == 0) = true := by assumption
          have h0' : cur = 0 := by simpa using h0
          refine ⟨?_, hbw⟩
          rw [← unhide HR, latestR, ← unhide hfin, if_pos h0']
          rfl
        · go_ret2
          have h0 : (cur == 0) = false := by assumption
          have h0' : ¬ cur = 0 := by simpa using h0
          refine ⟨?_, hbw⟩
          rw [← unhide HR, latestR, ← unhide hfin, if_neg h0']
          rfl
end Go.Proofs.YtijpgamdpcgneaaGreat
