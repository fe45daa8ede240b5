/- errors.As at a *lex.failure: into a *lex.failure variable; into an Errno variable, by what the failure wraps. -/
import Derived.Test.YtfajbkpeioejoaaDoorLxH
import Derived.LaidEql
import Derived.Stop.Asserts
import Derived.RowKitTokens
namespace Go.Proofs.YtfajbkpeioejoaaDoor
open Go.RowKit Go.Extern.Stop Go.Stop Go.Extern
set_option linter.unusedVariables false
set_option linter.unusedSimpArgs false

/-- a type's own pointer, as reflectlite's rtype; a Value over a cell. -/
def rT (t : Nat) : Value := .agg #[.pointer (some ⟨1, t, none⟩)]
def vT (t : Nat) (a : Addr) (fl : Int) : Value := .agg #[.pointer (some ⟨1, t, none⟩), .pointer (some a), .int .u64 fl]

theorem as_nil (t : Value) (w : World) :
    Calls Tryd.prog 20 #[.nilIface, t] w fun e w' => e = .returned (.bool false) ∧ w = w' := by
  go_enter Tryd.func20, Tryd.ntmps20
  go_wp2
  go_ret
  exact ⟨rfl, rfl⟩

theorem un_pp (t : Addr) (w : World) : (ReflectliteValue.unpack (.iface 121 (.pointer (some t)))).run Tryd.prog w = .ok (vT 121 ⟨w.heap.size, 0, none⟩ 150) (w.alloc (.cells #[.pointer (some t)] 121)) := by kernel_rfl
theorem un_pe (t : Addr) (w : World) : (ReflectliteValue.unpack (.iface 58 (.pointer (some t)))).run Tryd.prog w = .ok (vT 58 ⟨w.heap.size, 0, none⟩ 150) (w.alloc (.cells #[.pointer (some t)] 58)) := by kernel_rfl
theorem un_p (t : Addr) (w : World) : (ReflectliteValue.unpack (.iface 120 (.pointer (some t)))).run Tryd.prog w = .ok (vT 120 ⟨w.heap.size, 0, none⟩ 150) (w.alloc (.cells #[.pointer (some t)] 120)) := by kernel_rfl
theorem un_e (x : Int) (w : World) : (ReflectliteValue.unpack (.iface 27 (.int .i64 x))).run Tryd.prog w = .ok (vT 27 ⟨w.heap.size, 0, none⟩ 130) (w.alloc (.cells #[.int .i64 x] 27)) := by kernel_rfl
theorem ty_pp (a : Addr) (w : World) : (ReflectliteValue.methodAny (ReflectliteValue.valueError "reflectlite.Value.Type" 0) (fun t _ _ _ => ReflectliteType.toType t) #[vT 121 a 150]).run Tryd.prog w = .ok (.iface 104 (rT 121)) w := by kernel_rfl
theorem ty_pe (a : Addr) (w : World) : (ReflectliteValue.methodAny (ReflectliteValue.valueError "reflectlite.Value.Type" 0) (fun t _ _ _ => ReflectliteType.toType t) #[vT 58 a 150]).run Tryd.prog w = .ok (.iface 104 (rT 58)) w := by kernel_rfl
theorem mt_Kind (h : Value) (w : World) : (Go.method 266 104 (.agg #[h]) "Kind").run Tryd.prog w = .ok (77, h) w := by kernel_rfl
theorem mt_Elem (h : Value) (w : World) : (Go.method 266 104 (.agg #[h]) "Elem").run Tryd.prog w = .ok (89, .agg #[h]) w := by kernel_rfl
theorem mt_Implements (h : Value) (w : World) : (Go.method 266 104 (.agg #[h]) "Implements").run Tryd.prog w = .ok (90, .agg #[h]) w := by kernel_rfl
theorem mt_AssignableTo (h : Value) (w : World) : (Go.method 266 104 (.agg #[h]) "AssignableTo").run Tryd.prog w = .ok (87, .agg #[h]) w := by kernel_rfl
theorem kd_pp (w : World) : ((ReflectliteType.abiMethod fun t => (fun a : Nat => Value.int IntKind.u8 (a : Int)) <$> Rtype.kind t) #[.pointer (some ⟨1, 121, none⟩)]).run Tryd.prog w = .ok (.int .u8 22) w := by kernel_rfl
theorem kd_pe (w : World) : ((ReflectliteType.abiMethod fun t => (fun a : Nat => Value.int IntKind.u8 (a : Int)) <$> Rtype.kind t) #[.pointer (some ⟨1, 58, none⟩)]).run Tryd.prog w = .ok (.int .u8 22) w := by kernel_rfl
theorem kd_p (w : World) : ((ReflectliteType.abiMethod fun t => (fun a : Nat => Value.int IntKind.u8 (a : Int)) <$> Rtype.kind t) #[.pointer (some ⟨1, 120, none⟩)]).run Tryd.prog w = .ok (.int .u8 22) w := by kernel_rfl
theorem kd_e (w : World) : ((ReflectliteType.abiMethod fun t => (fun a : Nat => Value.int IntKind.u8 (a : Int)) <$> Rtype.kind t) #[.pointer (some ⟨1, 27, none⟩)]).run Tryd.prog w = .ok (.int .u8 2) w := by kernel_rfl
theorem el_pp (w : World) : (ReflectliteType.method ReflectliteType.elem #[rT 121]).run Tryd.prog w = .ok (.iface 104 (rT 120)) w := by kernel_rfl
theorem el_pe (w : World) : (ReflectliteType.method ReflectliteType.elem #[rT 58]).run Tryd.prog w = .ok (.iface 104 (rT 27)) w := by kernel_rfl
theorem im_p (w : World) : (ReflectliteType.relation "Implements" ReflectliteType.implements_ #[rT 120, .iface 104 (rT 53)]).run Tryd.prog w = .ok (.bool true) w := by kernel_rfl
theorem to_p (v : Value) (w : World) : (ReflectliteType.typeOf #[.iface 120 v]).run Tryd.prog w = .ok (.iface 104 (rT 120)) w := by kernel_rfl
theorem im_e (w : World) : (ReflectliteType.relation "Implements" ReflectliteType.implements_ #[rT 27, .iface 104 (rT 53)]).run Tryd.prog w = .ok (.bool true) w := by kernel_rfl
theorem to_e (v : Value) (w : World) : (ReflectliteType.typeOf #[.iface 27 v]).run Tryd.prog w = .ok (.iface 104 (rT 27)) w := by kernel_rfl
theorem as_pp (w : World) : (ReflectliteType.relation "AssignableTo" ReflectliteType.assignableTo #[rT 120, .iface 104 (rT 120)]).run Tryd.prog w = .ok (.bool true) w := by kernel_rfl
theorem as_pe (w : World) : (ReflectliteType.relation "AssignableTo" ReflectliteType.assignableTo #[rT 120, .iface 104 (rT 27)]).run Tryd.prog w = .ok (.bool false) w := by kernel_rfl
theorem as_ee (w : World) : (ReflectliteType.relation "AssignableTo" ReflectliteType.assignableTo #[rT 27, .iface 104 (rT 27)]).run Tryd.prog w = .ok (.bool true) w := by kernel_rfl
theorem pt_pp (a : Addr) (w : World) : (ReflectliteValue.parts (vT 121 a 150)).run Tryd.prog w = .ok (some (121, a, 150)) w := by kernel_rfl
/-- (Value).IsNil, (Value).Elem at the Value of a pointer that is not nil. -/
theorem nl_pp (a p : Addr) (W : World) (ha : W.cell? a = some (.pointer (some p))) :
    (ReflectliteValue.method (ReflectliteValue.valueError "reflectlite.Value.IsNil" 0) ReflectliteValue.isNil #[vT 121 a 150]).run Tryd.prog W = .ok (.bool false) W := by
  change (bind (ReflectliteValue.parts (vT 121 a 150)) _ : Sem Value).run _ _ = _
  simp only [Sem.run_bind, pt_pp, Result.andThen]
  simp [ReflectliteValue.isNil, loadVar, isAgg, underlying, Tryd.underlying121, ha, Result.andThen]
theorem eo_pp (w : World) : (Rtype.elem? 121).run Tryd.prog w = .ok (some 120) w := by kernel_rfl
theorem pt_pe (a : Addr) (w : World) : (ReflectliteValue.parts (vT 58 a 150)).run Tryd.prog w = .ok (some (58, a, 150)) w := by kernel_rfl
/-- (Value).IsNil, (Value).Elem at the Value of a pointer that is not nil. -/
theorem nl_pe (a p : Addr) (W : World) (ha : W.cell? a = some (.pointer (some p))) :
    (ReflectliteValue.method (ReflectliteValue.valueError "reflectlite.Value.IsNil" 0) ReflectliteValue.isNil #[vT 58 a 150]).run Tryd.prog W = .ok (.bool false) W := by
  change (bind (ReflectliteValue.parts (vT 58 a 150)) _ : Sem Value).run _ _ = _
  simp only [Sem.run_bind, pt_pe, Result.andThen]
  simp [ReflectliteValue.isNil, loadVar, isAgg, underlying, Tryd.underlying58, ha, Result.andThen]
theorem eo_pe (w : World) : (Rtype.elem? 58).run Tryd.prog w = .ok (some 27) w := by kernel_rfl
theorem mk_p (p : Addr) (w : World) : (ReflectliteValue.mk 120 p ReflectliteValue.flagAddr).run Tryd.prog w = .ok (vT 120 p 406) w := by kernel_rfl
theorem pa_p (a : Addr) (w : World) : (ReflectliteValue.parts (vT 120 a 406)).run Tryd.prog w = .ok (some (120, a, 406)) w := by kernel_rfl
theorem pb_p (a : Addr) (w : World) : (ReflectliteValue.parts (vT 120 a 150)).run Tryd.prog w = .ok (some (120, a, 150)) w := by kernel_rfl
theorem di_p (w : World) : (Rtype.directlyAssignable 120 120).run Tryd.prog w = .ok true w := by kernel_rfl
theorem mk_e (p : Addr) (w : World) : (ReflectliteValue.mk 27 p ReflectliteValue.flagAddr).run Tryd.prog w = .ok (vT 27 p 386) w := by kernel_rfl
theorem pa_e (a : Addr) (w : World) : (ReflectliteValue.parts (vT 27 a 386)).run Tryd.prog w = .ok (some (27, a, 386)) w := by kernel_rfl
theorem pb_e (a : Addr) (w : World) : (ReflectliteValue.parts (vT 27 a 130)).run Tryd.prog w = .ok (some (27, a, 130)) w := by kernel_rfl
theorem di_e (w : World) : (Rtype.directlyAssignable 27 27).run Tryd.prog w = .ok true w := by kernel_rfl
theorem ev_pp (a p : Addr) (W : World) (ha : W.cell? a = some (.pointer (some p))) :
    (ReflectliteValue.method (ReflectliteValue.valueError "reflectlite.Value.Elem" 0) ReflectliteValue.elem #[vT 121 a 150]).run Tryd.prog W = .ok (vT 120 p 406) W := by
  change (bind (ReflectliteValue.parts (vT 121 a 150)) _ : Sem Value).run _ _ = _
  simp only [Sem.run_bind, pt_pp, Result.andThen]
  simp [ReflectliteValue.elem, loadVar, isAgg, underlying, Tryd.underlying121, ha, Result.andThen, eo_pp, mk_p]
theorem ev_pe (a p : Addr) (W : World) (ha : W.cell? a = some (.pointer (some p))) :
    (ReflectliteValue.method (ReflectliteValue.valueError "reflectlite.Value.Elem" 0) ReflectliteValue.elem #[vT 58 a 150]).run Tryd.prog W = .ok (vT 27 p 386) W := by
  change (bind (ReflectliteValue.parts (vT 58 a 150)) _ : Sem Value).run _ _ = _
  simp only [Sem.run_bind, pt_pe, Result.andThen]
  simp [ReflectliteValue.elem, loadVar, isAgg, underlying, Tryd.underlying58, ha, Result.andThen, eo_pe, mk_e]
/-- (Value).Set. -/
theorem st_p (ta b : Addr) (e : Addr) (old : Value) (W : World) (hb : W.cell? b = some (.pointer (some e))) (ht : W.cell? ta = some old) (hf : W.frozen? ta = false) :
    (ReflectliteValue.set #[vT 120 ta 406, vT 120 b 150]).run Tryd.prog W = .ok (.tuple #[]) (W.setCell ta (.pointer (some e))) := by
  change (bind (ReflectliteValue.parts (vT 120 ta 406)) fun x => bind (ReflectliteValue.parts (vT 120 b 150)) fun y => _ : Sem Value).run _ _ = _
  simp only [Sem.run_bind, pa_p, pb_p, Result.andThen]
  simp [ReflectliteValue.flagAddr, loadVar, isAgg, underlying, Tryd.underlying120, hb, Result.andThen, di_p, storeVar, Value.cells, storeCells, Addr.add]
  rw [run_store Tryd.prog W ta _ _ (by rfl)]
  simp [ht, hf]
/-- (Value).Set. -/
theorem st_e (ta b : Addr) (e : Int) (old : Value) (W : World) (hb : W.cell? b = some (.int .i64 e)) (ht : W.cell? ta = some old) (hf : W.frozen? ta = false) :
    (ReflectliteValue.set #[vT 27 ta 386, vT 27 b 130]).run Tryd.prog W = .ok (.tuple #[]) (W.setCell ta (.int .i64 e)) := by
  change (bind (ReflectliteValue.parts (vT 27 ta 386)) fun x => bind (ReflectliteValue.parts (vT 27 b 130)) fun y => _ : Sem Value).run _ _ = _
  simp only [Sem.run_bind, pa_e, pb_e, Result.andThen]
  simp [ReflectliteValue.flagAddr, loadVar, isAgg, underlying, Tryd.underlying27, hb, Result.andThen, di_e, storeVar, Value.cells, storeCells, Addr.add]
  rw [run_store Tryd.prog W ta _ _ (by rfl)]
  simp [ht, hf]
end Go.Proofs.YtfajbkpeioejoaaDoor
