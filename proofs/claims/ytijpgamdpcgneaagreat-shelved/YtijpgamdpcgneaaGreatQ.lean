import Derived.Test.YtijpgamdpcgneaaGreatP
import Derived.Test.YtijpgamdpcgneaaGreatJ
import Derived.Test.YtijpgamdpcgneaaGreatK2
import Derived.WideKeyRuns
namespace Go.Proofs.YtijpgamdpcgneaaGreat
open Go.RowKit Go.MapKept

theorem Tryz.stood78 : Tryz.prog.stoodInHeld 78 = false := by kernel_rfl
theorem Tryz.fields78 : (Tryz.prog.fieldsOf 78).toList = [{ name := "Path", type := 9, offset := 0, embedded := false, tag := "", pkgPath := "", byteOffset := 0 }, { name := "Version", type := 3, offset := 1, embedded := false, tag := "", pkgPath := "", byteOffset := 16 }] := by kernel_rfl
theorem Tryz.struct78 : Tryz.prog.underlying 78 = some (.struct (Tryz.prog.fieldsOf 78)) := by kernel_rfl
theorem Tryz.under80 : Tryz.prog.underlying 80 = some (.map 78 79) := by kernel_rfl
theorem Tryz.zero79 (w : World) : (zeroValue 79).run Tryz.prog w = .ok (.pointer none) w := by kernel_rfl
theorem Tryz.under79 : Tryz.prog.underlying 79 = some (.pointer 84) := by kernel_rfl

set_option maxRecDepth 100000 in
theorem run_equal73 (a b : Mo) (W : World) : (Op.equalIn 10000 78 (.agg #[.string a.1, .int .i64 a.2]) (.agg #[.string b.1, .int .i64 b.2])).run Tryz.prog W = .ok (eqM a b) W := by
  rw [run_equalIn_struct W 9999 78 _ _ Tryz.struct78 Tryz.stood78, Tryz.fields78]
  simp [Op.eqFields, go_sem]
  by_cases h : a.1.toList = b.1.toList <;> by_cases h2 : a.2 = b.2 <;> simp [eqM, h, h2]

set_option maxRecDepth 100000 in
theorem run_check73 (em : Bool) (a : Mo) (W : World) : (Instr.checkKey em 10000 78 (.agg #[.string a.1, .int .i64 a.2])).run Tryz.prog W = .ok () W := by
  have h9 : (Instr.checkKey em (9998 + 1) 9 (.string a.1)).run Tryz.prog W = .ok () W := MapKept.run_checkKey Tryz.underlying9 (show IsKey .string (.string a.1) from trivial) em 9998
  have h3 : (Instr.checkKey em (9998 + 1) 3 (.int .i64 a.2)).run Tryz.prog W = .ok () W := MapKept.run_checkKey Tryz.underlying3 (by simp [IsKey]) em 9998
  have p9 : (part 9 #[.string a.1, .int .i64 a.2] 0).run Tryz.prog W = .ok (.string a.1) W := by simp [go_sem]
  have p3 : (part 3 #[.string a.1, .int .i64 a.2] 1).run Tryz.prog W = .ok (.int .i64 a.2) W := by simp [go_sem]
  rw [show (10000 : Nat) = (9998 + 1) + 1 from rfl]
  generalize (9998 + 1 : Nat) = d at h9 h3 ⊢
  rw [Instr.checkKey]
  simp only [Sem.run_bind, run_underlying Tryz.struct78, Result.andThen_ok]
  rw [← Array.forIn_toList, Tryz.fields78]
  simp [Sem.run_bind, p9, p3, h9, h3]

/-- A module that is published. -/
structure En where
  m : Mo
  needs : List Mo
  ret : Bool

theorem eqM_comm (a b : Mo) : eqM a b = eqM b a := by
  simp only [eqM, Bool.beq_comm]

def idxE (ents : List En) (m : Mo) : Option Nat := ents.findIdx? (fun e => eqM e.m m)

theorem run_find73 (W : World) (m : Mo) : ∀ (l : List MapEntry) (ks : List Mo) (i : Nat), l.map (·.key) = ks.map mv →
    (Instr.findAsking 78 (.agg #[.string m.1, .int .i64 m.2]) l i).run Tryz.prog W = .ok (match ks.findIdx? (fun k => eqM k m) with | some j => (l[j]?).map (fun e => (i + j, e.val)) | none => none) W
  | [], ks, i, h => by
    cases ks with
    | nil => simp [Instr.findAsking]
    | cons => simp at h
  | e :: l, ks, i, h => by
    cases ks with
    | nil => simp at h
    | cons k ks =>
      simp only [List.map_cons, List.cons.injEq] at h
      have ih := run_find73 W m l ks (i + 1) h.2
      have he : (Op.equal 78 (.agg #[.string m.1, .int .i64 m.2]) e.key).run Tryz.prog W = .ok (eqM m k) W := by
        rw [h.1, mv, Op.equal, Op.maxDepth]
        exact run_equal73 m k W
      simp only [Instr.findAsking, Sem.run_bind, he, Result.andThen_ok]
      rw [List.findIdx?_cons, eqM_comm k m]
      cases eqM m k
      · simp only [Bool.false_eq_true, if_false, ih]
        cases ks.findIdx? (fun k => eqM k m) with
        | none => rfl
        | some j => simp [Nat.add_assoc, Nat.add_comm 1 j]
      · simp

theorem run_lookup52 (W : World) (mb : Nat) (es : Array MapEntry) (clock : Nat) (hm : W.heap[mb]? = some (.map es clock)) (ks : List Mo) (hk : es.toList.map (·.key) = ks.map mv) (m : Mo) :
    (Instr.lookup 80 (.map (some mb)) (.agg #[.string m.1, .int .i64 m.2]) false).run Tryz.prog W = .ok (match ks.findIdx? (fun k => eqM k m) with | some j => ((es[j]?).map (·.val)).getD (.pointer none) | none => .pointer none) W := by
  have hf := run_find73 W m es.toList ks 0 hk
  have hfk : (Instr.findKey 78 (.agg #[.string m.1, .int .i64 m.2]) es.toList).run Tryz.prog W = _ := (run_findKey_eq W (by rw [Tryz.struct78]) _ _).trans hf
  simp only [Instr.lookup, Sem.run_bind, run_underlying Tryz.under80, Result.andThen_ok, MapKept.run_getObj_map hm, Sem.run_pure, run_check73, hfk]
  cases hj : ks.findIdx? (fun k => eqM k m) with
  | none => simp
  | some j =>
    have hlt : j < es.size := by
      have h1 := (List.findIdx?_eq_some_iff_getElem.1 hj).1
      have h2 := congrArg List.length hk
      simp at h2
      omega
    simp [Array.getElem?_eq_getElem hlt]

theorem run_insert52 (W : World) (mb : Nat) (es : Array MapEntry) (clock : Nat) (hm : W.heap[mb]? = some (.map es clock)) (ks : List Mo) (hk : es.toList.map (·.key) = ks.map mv) (m : Mo) (v : Value)
    (hnone : ks.findIdx? (fun k => eqM k m) = none) :
    (Instr.mapUpdate 80 (.map (some mb)) (.agg #[.string m.1, .int .i64 m.2]) v).run Tryz.prog W = .ok () { W with heap := W.heap.setIfInBounds mb (.map (es.push { key := .agg #[.string m.1, .int .i64 m.2], val := v, born := clock }) (clock + 1)) } := by
  have hf := run_find73 W m es.toList ks 0 hk
  rw [hnone] at hf
  have hfk : (Instr.findKey 78 (.agg #[.string m.1, .int .i64 m.2]) es.toList).run Tryz.prog W = _ := (run_findKey_eq W (by rw [Tryz.struct78]) _ _).trans hf
  simp only [Instr.mapUpdate, Sem.run_bind, run_underlying Tryz.under80, Result.andThen_ok, MapKept.run_getObj_map hm, run_check73, hfk, run_setObj_map _ hm]
end Go.Proofs.YtijpgamdpcgneaaGreat
