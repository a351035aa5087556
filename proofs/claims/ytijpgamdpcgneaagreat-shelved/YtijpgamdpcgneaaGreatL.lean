import Derived.Test.YtijpgamdpcgneaaGreatK
import Derived.BigRegion
namespace Go.Proofs.YtijpgamdpcgneaaGreat
open Go.RowKit

/-- w' is w with new blocks, and with writes to blocks in S alone. -/
structure Upd (S : Nat → Prop) (w w' : World) : Prop where
  os : w'.os = w.os
  tape : w'.tape = w.tape
  output : w'.output = w.output
  size : w.heap.size ≤ w'.heap.size
  block : ∀ k, k < w.heap.size → ¬ S k → w'.heap[k]? = w.heap[k]?

theorem Upd.refl (S : Nat → Prop) (w : World) : Upd S w w := ⟨rfl, rfl, rfl, Nat.le_refl _, fun _ _ _ => rfl⟩
theorem Upd.trans {S : Nat → Prop} {a b c : World} (h : Upd S a b) (k : Upd S b c) : Upd S a c :=
  ⟨k.os.trans h.os, k.tape.trans h.tape, k.output.trans h.output, Nat.le_trans h.size k.size, fun i hi hs => (k.block i (Nat.lt_of_lt_of_le hi h.size) hs).trans (h.block i hi hs)⟩
theorem Upd.mono {S S' : Nat → Prop} {a b : World} (h : Upd S a b) (hs : ∀ k, k < a.heap.size → S k → S' k) : Upd S' a b := ⟨h.os, h.tape, h.output, h.size, fun k hk hn => h.block k hk (fun e => hn (hs k hk e))⟩
theorem Upd.of_below {S : Nat → Prop} {a b : World} (h : Below a.heap.size a b) : Upd S a b := ⟨h.os, h.tape, h.output, h.size, fun k hk _ => h.block k hk⟩
theorem Upd.setCell {S : Nat → Prop} {a w : World} (h : Upd S a w) (p : Addr) (v : Value) (hp : S p.block ∨ a.heap.size ≤ p.block) : Upd S a (w.setCell p v) :=
  ⟨h.os, h.tape, h.output, by simpa [World.setCell] using h.size, fun k hk hs => by
    rw [Below.heap_setCell _ _ _ _ (by rintro rfl; rcases hp with hp | hp; exact hs hp; omega)]
    exact h.block k hk hs⟩
theorem Upd.drewN {S : Nat → Prop} {a w : World} (h : Upd S a w) (n : Nat) : Upd S a (w.drewN n) := h.trans ⟨rfl, rfl, rfl, Nat.le_refl _, fun _ _ _ => rfl⟩
theorem Upd.drew {S : Nat → Prop} {a w : World} (h : Upd S a w) : Upd S a w.drew := h.trans ⟨rfl, rfl, rfl, Nat.le_refl _, fun _ _ _ => rfl⟩

theorem wrap64I (i : Nat) (h : i ≤ 140737488355328) : wrap64 (i : Int) = (i : Int) := by unfold wrap64; omega
theorem wrapI (i : Nat) (h : i ≤ 140737488355328) : IntKind.i64.wrap (i : Int) = (i : Int) := by rw [IntKind.wrap_i64]; omega

theorem Row.cap_le {w : World} {g : Nat} {T : TypeId} {xs : List Mo} {cap : Nat} (h : Row w g T xs cap) : xs.length ≤ cap := by
  obtain ⟨arr, h1, h2, h3, h4⟩ := h
  exact h3

/-- One element goes down to its place, from j on. -/
def sift : List Mo → Nat → List Mo
  | l, 0 => l
  | l, j + 1 => match l[j + 1]?, l[j]? with
    | some a, some b => if cmpM a b < 0 then sift ((l.set (j + 1) b).set j a) j else l
    | _, _ => l
def isortFrom : List Mo → Nat → Nat → List Mo
  | l, _, 0 => l
  | l, i, f + 1 => isortFrom (sift l i) (i + 1) f
def isort (l : List Mo) : List Mo := isortFrom l 1 (l.length - 1)

theorem sift_less {l : List Mo} {j : Nat} {a b : Mo} (ha : l[j + 1]? = some a) (hb : l[j]? = some b) (h : cmpM a b < 0) : sift l (j + 1) = sift ((l.set (j + 1) b).set j a) j := by
  simp [sift, ha, hb, h]
theorem sift_not {l : List Mo} {j : Nat} {a b : Mo} (ha : l[j + 1]? = some a) (hb : l[j]? = some b) (h : ¬ cmpM a b < 0) : sift l (j + 1) = l := by
  simp [sift, ha, hb, h]
theorem sift_zero (l : List Mo) : sift l 0 = l := by unfold sift; rfl

set_option maxRecDepth 20000 in
set_option maxHeartbeats 2000000 in
theorem insSort_calls (g cap : Nat) (xs : List Mo) (hx : xs.length * 24 ≤ 140737488355328) (w : World) (h : Row w g 78 xs cap) :
    Calls Tryz.prog 138 #[.slice (some ⟨g, 0, none⟩) xs.length cap, .int .i64 0, .int .i64 xs.length, .func (.func 68) #[] #[]] w fun e w' => e = .returned (.tuple #[]) ∧ Upd (· = g) w w' ∧ Row w' g 78 (isort xs) cap := by
  have hg := h.lt
  go_enter Tryz.func138, Tryz.ntmps138
  go_wp2
  go_loopw [8] (fun i wr => ∃ k : Nat, 1 ≤ k ∧ i = .int .i64 k ∧ Upd (· = g) w wr ∧ ∃ ys : List Mo, ys.length = xs.length ∧ Row wr g 78 ys cap ∧ isortFrom ys k (xs.length - k) = isort xs) (fun i _ => xs.length - (intOf i).toNat)
  case atStart => exact ⟨1, by omega, rfl, Upd.refl _ _, xs, rfl, h, rfl⟩
  case round =>
    obtain ⟨k, hk, rfl, hu, ys, hl, hrow, hfin⟩ := hrel
    have HF := hide hfin
    clear hfin
    by_cases hlt : k < xs.length
    · obtain ⟨wo, rfl⟩ : ∃ wo : World, wo = wr := ⟨_, rfl⟩
      have HL := hide hl
      clear hl
      go_wp2
      go_loopw [9] (fun i wr => ∃ j : Nat, j ≤ k ∧ i = .int .i64 j ∧ Upd (· = g) w wr ∧ ∃ zs : List Mo, zs.length = xs.length ∧ Row wr g 78 zs cap ∧ sift zs j = sift ys k) (fun i _ => (intOf i).toNat)
      case atStart => exact ⟨k, by omega, rfl, hu, ys, unhide HL, hrow, rfl⟩
      case round =>
        clear hu hrow HL
        obtain ⟨j, hj, rfl, hu, zs, hl, hrow, hsi⟩ := hrel
        have HS := hide hsi
        clear hsi
        have HL := hide hl
        by_cases hj0 : 0 < j
        · obtain ⟨a, ha⟩ : ∃ m, zs[j]? = some m := ⟨_, List.getElem?_eq_getElem (by omega)⟩
          obtain ⟨b, hb⟩ : ∃ m, zs[j - 1]? = some m := ⟨_, List.getElem?_eq_getElem (by omega)⟩
          clear hl
          obtain ⟨i, rfl⟩ : ∃ i, j = i + 1 := ⟨j - 1, by omega⟩
          rw [Nat.add_sub_cancel] at hb
          have hc0 := hrow.lst
          rcases hc0 with ⟨h0, _⟩ | ⟨_, _, _, h0, _, hc⟩
          · cases h0
          cases h0
          have c0 := (hc (i + 1) a ha).1
          have c1 := (hc (i + 1) a ha).2
          have d0 := (hc i b hb).1
          have d1 := (hc i b hb).2
          rw [Nat.zero_add] at c0 c1 d0 d1
          clear hc
          have hgr : g < wr.heap.size := by have := hu.size; omega
          have cS := fun W => Compare_calls a b W
          simp only [mv] at cS
          obtain ⟨q, hq⟩ : ∃ q, cmpM a b = q := ⟨_, rfl⟩
          simp only [hq] at cS
          have HQ := hide hq
          clear hq
          have hi : i + 1 < xs.length := by omega
          have hi1 : (0 : Int) ≤ (i : Int) + 1 := by omega
          have hi2 : (i : Int) + 1 < (xs.length : Int) := by omega
          have hi3 : (i : Int) < (xs.length : Int) := by omega
          have hi4 : (0 : Int) ≤ (i : Int) := by omega
          have hi7 := wrapI i (by omega)
          have hi8 := wrap64I i (by omega)
          have hi6 : ((i : Int) + 1).toNat = i + 1 := by omega
          have HR := hide hrow
          have HU := hide hu
          have HA := hide ha
          have HB := hide hb
          clear hrow hu ha hb
          go_wp2
          go_region_held3 (fun w' => w'.cell? ⟨g, (i + 1) * 2, none⟩ = some (.string a.1) ∧ w'.cell? ⟨g, (i + 1) * 2 + 1, none⟩ = some (.int .i64 a.2) ∧ w'.cell? ⟨g, i * 2, none⟩ = some (.string b.1) ∧ w'.cell? ⟨g, i * 2 + 1, none⟩ = some (.int .i64 b.2))
            (first | (simp [go_sem, c0, c1, d0, d1]; done) | (simp [go_sem, *]; done))
            (first | (go_at_call 68; refine (cS _).mono ?_; rintro e W' ⟨rfl, hb'⟩; have k0 := hb'.cell (p := ⟨g, (i + 1) * 2, none⟩) hgr; have k1 := hb'.cell (p := ⟨g, (i + 1) * 2 + 1, none⟩) hgr; have k2 := hb'.cell (p := ⟨g, i * 2, none⟩) hgr; have k3 := hb'.cell (p := ⟨g, i * 2 + 1, none⟩) hgr))
          by_cases hlq : q < 0
          · have hrw := (unhide HR).of_block (w' := W') (hb'.block g hgr)
            have f0 := hrw.frozen ((i + 1) * 2)
            have f1 := hrw.frozen ((i + 1) * 2 + 1)
            have f2 := hrw.frozen (i * 2)
            have f3 := hrw.frozen (i * 2 + 1)
            have HW := hide hrw
            have c0' := k0.trans c0
            have c1' := k1.trans c1
            have d0' := k2.trans d0
            have d1' := k3.trans d1
            clear hrw k0 k1 k2 k3 c0 c1 d0 d1
            go_wp2
            go_region
            go_wp2
            go_roundw
            case rel =>
              refine ⟨i, by omega, by go_num, ?_, (zs.set (i + 1) b).set i a, ?_, ?_, ?_⟩
              · have hu1 : Upd (· = g) w W' := (unhide HU).drew.trans (Upd.of_below hb')
                exact ((((hu1.setCell _ _ (Or.inl rfl)).setCell _ _ (Or.inl rfl)).setCell _ _ (Or.inl rfl)).setCell _ _ (Or.inl rfl)).drew
              · simp [unhide HL]
              · exact Row.of_block (((unhide HW).set (i + 1) b (by have := (unhide HW).cap_le; rw [unhide HL] at this; omega)).set i a (by have := (unhide HW).cap_le; rw [unhide HL] at this; omega)) rfl
              · rw [← unhide HS, sift_less (unhide HA) (unhide HB) (by rw [unhide HQ]; exact hlq)]
            case measure => simp [intOf]
          · go_wp2
            go_roundw
            case rel =>
              refine ⟨k + 1, by omega, by go_num, (unhide HU).drew.trans (Upd.of_below hb'), zs, unhide HL, (unhide HR).of_block (hb'.block g hgr), ?_⟩
              rw [← unhide HF, show xs.length - k = (xs.length - (k + 1)) + 1 by omega, isortFrom, ← unhide HS, sift_not (unhide HA) (unhide HB) (by rw [unhide HQ]; exact hlq)]
            case measure => simp [intOf]; omega
        · obtain rfl : j = 0 := by omega
          have HR := hide hrow
          have HU := hide hu
          clear hrow hu hl
          go_wp2
          go_quiet (fail)
          go_wp2
          go_roundw
          case rel =>
            refine ⟨k + 1, by omega, by go_num, (unhide HU).drewN _, zs, unhide HL, (unhide HR).of_block rfl, ?_⟩
            rw [← unhide HF, show xs.length - k = (xs.length - (k + 1)) + 1 by omega, isortFrom, ← unhide HS, sift_zero]
          case measure => simp [intOf]; omega
    · have HR := hide hrow
      have HU := hide hu
      clear hrow hu
      go_wp2
      go_end0
      refine ⟨rfl, unhide HU, ?_⟩
      rw [← unhide HF, show xs.length - k = 0 by omega, isortFrom]
      exact unhide HR
end Go.Proofs.YtijpgamdpcgneaaGreat
