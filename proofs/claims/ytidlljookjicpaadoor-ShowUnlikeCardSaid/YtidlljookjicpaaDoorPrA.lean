/- errors.As at a *parse.failure. -/
import Derived.Test.YtidlljookjicpaaDoorAsA
namespace Go.Proofs.YtidlljookjicpaaDoor.PsA
open Go.RowKit Go.Extern.Stop Go.Stop Go.Extern
set_option linter.unusedVariables false
set_option linter.unusedSimpArgs false
theorem un_pe (t : Addr) (w : World) : (ReflectliteValue.unpack (.iface 86 (.pointer (some t)))).run Tryd.prog w = .ok (vT 86 ⟨w.heap.size, 0, none⟩ 150) (w.alloc (.cells #[.pointer (some t)] 86)) := by kernel_rfl
theorem un_e (x : Int) (w : World) : (ReflectliteValue.unpack (.iface 27 (.int .i64 x))).run Tryd.prog w = .ok (vT 27 ⟨w.heap.size, 0, none⟩ 130) (w.alloc (.cells #[.int .i64 x] 27)) := by kernel_rfl
theorem ty_pe (a : Addr) (w : World) : (ReflectliteValue.methodAny (ReflectliteValue.valueError "reflectlite.Value.Type" 0) (fun t _ _ _ => ReflectliteType.toType t) #[vT 86 a 150]).run Tryd.prog w = .ok (.iface 111 (rT 86)) w := by kernel_rfl
theorem mt_Kind (h : Value) (w : World) : (Go.method 269 111 (.agg #[h]) "Kind").run Tryd.prog w = .ok (86, h) w := by kernel_rfl
theorem mt_Elem (h : Value) (w : World) : (Go.method 269 111 (.agg #[h]) "Elem").run Tryd.prog w = .ok (99, .agg #[h]) w := by kernel_rfl
theorem mt_Implements (h : Value) (w : World) : (Go.method 269 111 (.agg #[h]) "Implements").run Tryd.prog w = .ok (100, .agg #[h]) w := by kernel_rfl
theorem mt_AssignableTo (h : Value) (w : World) : (Go.method 269 111 (.agg #[h]) "AssignableTo").run Tryd.prog w = .ok (97, .agg #[h]) w := by kernel_rfl
theorem kd_pe (w : World) : ((ReflectliteType.abiMethod fun t => (fun a : Nat => Value.int IntKind.u8 (a : Int)) <$> Rtype.kind t) #[.pointer (some ⟨4, 86, none⟩)]).run Tryd.prog w = .ok (.int .u8 22) w := by kernel_rfl
theorem kd_e (w : World) : ((ReflectliteType.abiMethod fun t => (fun a : Nat => Value.int IntKind.u8 (a : Int)) <$> Rtype.kind t) #[.pointer (some ⟨4, 27, none⟩)]).run Tryd.prog w = .ok (.int .u8 2) w := by kernel_rfl
theorem el_pe (w : World) : (ReflectliteType.method ReflectliteType.elem #[rT 86]).run Tryd.prog w = .ok (.iface 111 (rT 27)) w := by kernel_rfl
theorem im_e (w : World) : (ReflectliteType.relation "Implements" ReflectliteType.implements_ #[rT 27, .iface 111 (rT 47)]).run Tryd.prog w = .ok (.bool true) w := by kernel_rfl
theorem to_e (v : Value) (w : World) : (ReflectliteType.typeOf #[.iface 27 v]).run Tryd.prog w = .ok (.iface 111 (rT 27)) w := by kernel_rfl
theorem as_ee (w : World) : (ReflectliteType.relation "AssignableTo" ReflectliteType.assignableTo #[rT 27, .iface 111 (rT 27)]).run Tryd.prog w = .ok (.bool true) w := by kernel_rfl
theorem pt_pe (a : Addr) (w : World) : (ReflectliteValue.parts (vT 86 a 150)).run Tryd.prog w = .ok (some (86, a, 150)) w := by kernel_rfl
/-- (Value).IsNil, (Value).Elem at the Value of a pointer that is not nil. -/
theorem nl_pe (a p : Addr) (W : World) (ha : W.cell? a = some (.pointer (some p))) :
    (ReflectliteValue.method (ReflectliteValue.valueError "reflectlite.Value.IsNil" 0) ReflectliteValue.isNil #[vT 86 a 150]).run Tryd.prog W = .ok (.bool false) W := by
  change (bind (ReflectliteValue.parts (vT 86 a 150)) _ : Sem Value).run _ _ = _
  simp only [Sem.run_bind, pt_pe, Result.andThen]
  simp [ReflectliteValue.isNil, loadVar, isAgg, underlying, Tryd.underlying86, ha, Result.andThen]
theorem eo_pe (w : World) : (Rtype.elem? 86).run Tryd.prog w = .ok (some 27) w := by kernel_rfl
theorem mk_e (p : Addr) (w : World) : (ReflectliteValue.mk 27 p ReflectliteValue.flagAddr).run Tryd.prog w = .ok (vT 27 p 386) w := by kernel_rfl
theorem pa_e (a : Addr) (w : World) : (ReflectliteValue.parts (vT 27 a 386)).run Tryd.prog w = .ok (some (27, a, 386)) w := by kernel_rfl
theorem pb_e (a : Addr) (w : World) : (ReflectliteValue.parts (vT 27 a 130)).run Tryd.prog w = .ok (some (27, a, 130)) w := by kernel_rfl
theorem di_e (w : World) : (Rtype.directlyAssignable 27 27).run Tryd.prog w = .ok true w := by kernel_rfl
theorem ev_pe (a p : Addr) (W : World) (ha : W.cell? a = some (.pointer (some p))) :
    (ReflectliteValue.method (ReflectliteValue.valueError "reflectlite.Value.Elem" 0) ReflectliteValue.elem #[vT 86 a 150]).run Tryd.prog W = .ok (vT 27 p 386) W := by
  change (bind (ReflectliteValue.parts (vT 86 a 150)) _ : Sem Value).run _ _ = _
  simp only [Sem.run_bind, pt_pe, Result.andThen]
  simp [ReflectliteValue.elem, loadVar, isAgg, underlying, Tryd.underlying86, ha, Result.andThen, eo_pe, mk_e]
/-- (Value).Set. -/
theorem st_e (ta b : Addr) (e : Int) (old : Value) (W : World) (hb : W.cell? b = some (.int .i64 e)) (ht : W.cell? ta = some old) (hf : W.frozen? ta = false) :
    (ReflectliteValue.set #[vT 27 ta 386, vT 27 b 130]).run Tryd.prog W = .ok (.tuple #[]) (W.setCell ta (.int .i64 e)) := by
  change (bind (ReflectliteValue.parts (vT 27 ta 386)) fun x => bind (ReflectliteValue.parts (vT 27 b 130)) fun y => _ : Sem Value).run _ _ = _
  simp only [Sem.run_bind, pa_e, pb_e, Result.andThen]
  simp [ReflectliteValue.flagAddr, loadVar, isAgg, underlying, Tryd.underlying27, hb, Result.andThen, di_e, storeVar, Value.cells, storeCells, Addr.add]
  rw [run_store Tryd.prog W ta _ _ (by rfl)]
  simp [ht, hf]
end Go.Proofs.YtidlljookjicpaaDoor.PsA
/- errors.As into a *parse.wanted. -/
namespace Go.Proofs.YtidlljookjicpaaDoor.PwA
open Go.RowKit Go.Extern.Stop Go.Stop Go.Extern
set_option linter.unusedVariables false
set_option linter.unusedSimpArgs false
theorem no_as_e (v : Value) (xT : TypeId) (w : World) : (Instr.typeAssert (.iface 27 v) xT 116 true).run Tryd.prog w = .ok (.tuple #[.nilIface, .bool false]) w := run_typeAssert_lacksB Tryd.underlying116 (by kernel_rfl) (by kernel_rfl) v xT w
theorem no_un_e (v : Value) (xT : TypeId) (w : World) : (Instr.typeAssert (.iface 27 v) xT 119 true).run Tryd.prog w = .ok (.tuple #[.nilIface, .bool false]) w := run_typeAssert_lacksB Tryd.underlying119 (by kernel_rfl) (by kernel_rfl) v xT w
theorem no_uns_e (v : Value) (xT : TypeId) (w : World) : (Instr.typeAssert (.iface 27 v) xT 121 true).run Tryd.prog w = .ok (.tuple #[.nilIface, .bool false]) w := run_typeAssert_lacksB Tryd.underlying121 (by kernel_rfl) (by kernel_rfl) v xT w
end Go.Proofs.YtidlljookjicpaaDoor.PwA
