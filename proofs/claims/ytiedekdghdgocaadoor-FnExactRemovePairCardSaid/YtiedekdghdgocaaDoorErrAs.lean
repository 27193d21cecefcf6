/- errors.As at a refusal and a target of its own kind. -/
import Derived.Test.YtiedekdghdgocaaDoorKnotOf
import Derived.LaidEql
import Derived.Stop.Asserts
import Derived.Lib.ReflectliteSlice
namespace Go.Proofs.YtiedekdghdgocaaDoor
open Go.RowKit Go.Extern.Stop Go.Stop Go.Extern
set_option linter.unusedVariables false
set_option linter.unusedSimpArgs false
set_option maxRecDepth 100000

/-- the handle of a type -/
abbrev hdl (t : Nat) : Value := .pointer (some ⟨1, t, none⟩)
theorem rv_valueP (t : Addr) (w : World) : (ReflectliteValue.unpack (.iface 65 (.pointer (some t)))).run Tryd.prog w
    = .ok (.agg #[hdl 65, .pointer (some ⟨w.heap.size, 0, none⟩), .int .u64 150]) (w.alloc (.cells #[.pointer (some t)] 65)) := by kernel_rfl
theorem rv_typeP (a : Addr) (w : World) : (ReflectliteValue.methodAny (ReflectliteValue.valueError "reflectlite.Value.Type" 0) (fun t _ _ _ => ReflectliteType.toType t) #[.agg #[hdl 65, .pointer (some a), .int .u64 150]]).run Tryd.prog w
    = .ok (.iface 100 (.agg #[hdl 65])) w := by kernel_rfl
theorem rt_mKind (n : Nat) (h : Value) (w : World) : (Go.method (n + 1) 100 (.agg #[h]) "Kind").run Tryd.prog w = .ok (80, h) w := by kernel_rfl
theorem rt_kindP (w : World) : ((ReflectliteType.abiMethod fun t => (fun a : Nat => Value.int IntKind.u8 (a : Int)) <$> Rtype.kind t) #[hdl 65]).run Tryd.prog w = .ok (.int .u8 22) w := by kernel_rfl
theorem rt_kindT (w : World) : ((ReflectliteType.abiMethod fun t => (fun a : Nat => Value.int IntKind.u8 (a : Int)) <$> Rtype.kind t) #[hdl 59]).run Tryd.prog w = .ok (.int .u8 6) w := by kernel_rfl
theorem rv_partsP (a : Addr) (w : World) : (ReflectliteValue.parts (.agg #[hdl 65, .pointer (some a), .int .u64 150])).run Tryd.prog w = .ok (some (65, a, 150)) w := by kernel_rfl
theorem rv_isNilP (a p : Addr) (W : World) (ha : W.cell? a = some (.pointer (some p))) :
    (ReflectliteValue.method (ReflectliteValue.valueError "reflectlite.Value.IsNil" 0) ReflectliteValue.isNil #[.agg #[hdl 65, .pointer (some a), .int .u64 150]]).run Tryd.prog W = .ok (.bool false) W := by
  rw [Lib.rl_method]
  simp only [Sem.run_bind, rv_partsP, Result.andThen]
  simp [ReflectliteValue.isNil, loadVar, isAgg, underlying, Tryd.underlying65, ha, Result.andThen]
theorem rt_mElem (n : Nat) (h : Value) (w : World) : (Go.method (n + 1) 100 (.agg #[h]) "Elem").run Tryd.prog w = .ok (106, .agg #[h]) w := by kernel_rfl
theorem rt_mImplements (n : Nat) (h : Value) (w : World) : (Go.method (n + 1) 100 (.agg #[h]) "Implements").run Tryd.prog w = .ok (107, .agg #[h]) w := by kernel_rfl
theorem rt_mAssignable (n : Nat) (h : Value) (w : World) : (Go.method (n + 1) 100 (.agg #[h]) "AssignableTo").run Tryd.prog w = .ok (104, .agg #[h]) w := by kernel_rfl
theorem rt_elemP (w : World) : (ReflectliteType.method ReflectliteType.elem #[.agg #[hdl 65]]).run Tryd.prog w = .ok (.iface 100 (.agg #[hdl 59])) w := by kernel_rfl
theorem rt_implementsT (w : World) : (ReflectliteType.relation "Implements" ReflectliteType.implements_ #[.agg #[hdl 59], .iface 100 (.agg #[hdl 55])]).run Tryd.prog w = .ok (.bool true) w := by kernel_rfl
theorem rt_typeOfT (v : Value) (w : World) : (ReflectliteType.typeOf #[.iface 59 v]).run Tryd.prog w = .ok (.iface 100 (.agg #[hdl 59])) w := by kernel_rfl
theorem rt_assignableT (w : World) : (ReflectliteType.relation "AssignableTo" ReflectliteType.assignableTo #[.agg #[hdl 59], .iface 100 (.agg #[hdl 59])]).run Tryd.prog w = .ok (.bool true) w := by kernel_rfl
theorem rv_valueT (e : Int) (w : World) : (ReflectliteValue.unpack (.iface 59 (.int .i64 e))).run Tryd.prog w
    = .ok (.agg #[hdl 59, .pointer (some ⟨w.heap.size, 0, none⟩), .int .u64 134]) (w.alloc (.cells #[.int .i64 e] 59)) := by kernel_rfl
theorem rt_elemOfP (w : World) : (Rtype.elem? 65).run Tryd.prog w = .ok (some 59) w := by kernel_rfl
theorem rv_mkT (p : Addr) (w : World) : (ReflectliteValue.mk 59 p ReflectliteValue.flagAddr).run Tryd.prog w = .ok (.agg #[hdl 59, .pointer (some p), .int .u64 390]) w := by kernel_rfl
theorem rv_elemP (a p : Addr) (W : World) (ha : W.cell? a = some (.pointer (some p))) :
    (ReflectliteValue.method (ReflectliteValue.valueError "reflectlite.Value.Elem" 0) ReflectliteValue.elem #[.agg #[hdl 65, .pointer (some a), .int .u64 150]]).run Tryd.prog W
      = .ok (.agg #[hdl 59, .pointer (some p), .int .u64 390]) W := by
  rw [Lib.rl_method]
  simp only [Sem.run_bind, rv_partsP, Result.andThen]
  simp [ReflectliteValue.elem, loadVar, isAgg, underlying, Tryd.underlying65, ha, Result.andThen, rt_elemOfP, rv_mkT]
theorem rv_partsTa (a : Addr) (w : World) : (ReflectliteValue.parts (.agg #[hdl 59, .pointer (some a), .int .u64 390])).run Tryd.prog w = .ok (some (59, a, 390)) w := by kernel_rfl
theorem rv_partsT (a : Addr) (w : World) : (ReflectliteValue.parts (.agg #[hdl 59, .pointer (some a), .int .u64 134])).run Tryd.prog w = .ok (some (59, a, 134)) w := by kernel_rfl
theorem rt_directT (w : World) : (Rtype.directlyAssignable 59 59).run Tryd.prog w = .ok true w := by kernel_rfl
theorem rv_setT (ta b : Addr) (e : Int) (old : Value) (W : World) (hb : W.cell? b = some (.int .i64 e)) (ht : W.cell? ta = some old) (hf : W.frozen? ta = false) :
    (ReflectliteValue.set #[.agg #[hdl 59, .pointer (some ta), .int .u64 390], .agg #[hdl 59, .pointer (some b), .int .u64 134]]).run Tryd.prog W
      = .ok (.tuple #[]) (W.setCell ta (.int .i64 e)) := by
  have g0 : ∀ (a b : Value) (h1 : #[a, b].size = 2) (h2 : 0 < 2), Array.getLit #[a, b] 0 h1 h2 = a := fun _ _ _ _ => rfl
  have g1 : ∀ (a b : Value) (h1 : #[a, b].size = 2) (h2 : 1 < 2), Array.getLit #[a, b] 1 h1 h2 = b := fun _ _ _ _ => rfl
  delta ReflectliteValue.set ReflectliteValue.set.match_3
  dsimp only
  rw [dif_pos (by rfl)]
  simp only [g0, g1, Sem.run_bind, rv_partsTa, rv_partsT, Result.andThen]
  simp [ReflectliteValue.flagAddr, loadVar, isAgg, underlying, Tryd.underlying59, hb, Result.andThen, rt_directT, storeVar, Value.cells, storeCells, Addr.add]
  rw [run_store Tryd.prog W ta _ _ (by rfl)]
  simp [ht, hf]
end Go.Proofs.YtiedekdghdgocaaDoor
