import Derived.Test.YtijpgamdpcgneaaGreatF
import Derived.Laws.StructEq
namespace Go.Proofs.YtijpgamdpcgneaaGreat
open Go.RowKit
theorem Tryz.guard33 : Tryz.prog.eqGuardType Tryz.prog.depth 33 = false := by kernel_rfl
theorem Tryz.stood33 : Tryz.prog.stoodInHeld 33 = false := by kernel_rfl
theorem Tryz.fields33 : (Tryz.prog.fieldsOf 33).toList = [{ name := "Path", type := 9, offset := 0, embedded := false, tag := "", pkgPath := "", byteOffset := 0 }, { name := "Version", type := 3, offset := 1, embedded := false, tag := "", pkgPath := "", byteOffset := 16 }] := by kernel_rfl
theorem Tryz.struct33 : Tryz.prog.underlying 33 = some (.struct (Tryz.prog.fieldsOf 33)) := by kernel_rfl
set_option maxRecDepth 100000 in
theorem run_equal35 (a b : Mo) (W : World) : (Op.equalIn 10000 33 (.agg #[.string a.1, .int .i64 a.2]) (.agg #[.string b.1, .int .i64 b.2])).run Tryz.prog W = .ok (eqM a b) W := by
  rw [run_equalIn_struct W 9999 33 _ _ Tryz.struct33 Tryz.stood33, Tryz.fields33]
  simp [Op.eqFields, go_sem]
  by_cases h : a.1.toList = b.1.toList <;> by_cases h2 : a.2 = b.2 <;> simp [eqM, h, h2]
theorem run_eql35 (a b : Mo) (W : World) : (binOp .eql 33 (.agg #[.string a.1, .int .i64 a.2]) (.agg #[.string b.1, .int .i64 b.2])).run Tryz.prog W = .ok (.bool (eqM a b)) W := by
  rw [run_eql_struct, run_equal35]
  rfl
theorem run_neq35 (a b : Mo) (W : World) : (binOp .neq 33 (.agg #[.string a.1, .int .i64 a.2]) (.agg #[.string b.1, .int .i64 b.2])).run Tryz.prog W = .ok (.bool (!eqM a b)) W := by
  rw [run_neq_struct, run_equal35]
  rfl
theorem run_guard35 (op : BinOp) (x y : Operand) (xs ys : Array Value) (W : World) : (eqGuard op 33 x y (.agg xs) (.agg ys)).run Tryz.prog W = .ok () W := run_eqGuard_agg W op 33 x y xs ys Tryz.guard33
end Go.Proofs.YtijpgamdpcgneaaGreat
