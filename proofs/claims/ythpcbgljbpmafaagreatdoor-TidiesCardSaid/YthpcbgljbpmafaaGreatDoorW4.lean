/- errors.As at a *lex.failure: into a *lex.failure variable; into an Errno variable, by what the failure wraps. -/
import Derived.Test.YthpcbgljbpmafaaGreatDoorW2
import Derived.LaidEql
import Derived.Stop.Asserts
import Derived.RowKitTokens
set_option maxRecDepth 100000
set_option maxHeartbeats 8000000
namespace Go.Proofs.YthpcbgljbpmafaaGreatDoor
open Go.RowKit Go.Extern.Stop Go.Stop Go.Extern
set_option linter.unusedVariables false
set_option linter.unusedSimpArgs false
def rT (t:Nat):Value:= .agg #[.pointer (some ⟨1,t,none⟩)]
def vT (t:Nat) (a:Addr) (fl:Int):Value:= .agg #[.pointer (some ⟨1,t,none⟩), .pointer (some a), .int .u64 fl]
theorem as_nil (t:Value) (w:World) :
  Calls Tryz.prog 108 #[.nilIface,t] w fun e w'=>e= .returned (.bool false)∧w=w':=by
 go_enter Tryz.func108,Tryz.ntmps108
 go_wp2
 go_ret
 exact⟨rfl,rfl⟩
theorem un_pp (t:Addr) (w:World):(ReflectliteValue.unpack (.iface 146 (.pointer (some t)))).run Tryz.prog w= .ok (vT 146 ⟨w.heap.size,0,none⟩ 150) (w.alloc (.cells #[.pointer (some t)] 146)):=by kernel_rfl
theorem un_pe (t:Addr) (w:World):(ReflectliteValue.unpack (.iface 147 (.pointer (some t)))).run Tryz.prog w= .ok (vT 147 ⟨w.heap.size,0,none⟩ 150) (w.alloc (.cells #[.pointer (some t)] 147)):=by kernel_rfl
theorem un_p (t:Addr) (w:World):(ReflectliteValue.unpack (.iface 144 (.pointer (some t)))).run Tryz.prog w= .ok (vT 144 ⟨w.heap.size,0,none⟩ 150) (w.alloc (.cells #[.pointer (some t)] 144)):=by kernel_rfl
theorem un_e (x:Int) (w:World):(ReflectliteValue.unpack (.iface 27 (.int .i64 x))).run Tryz.prog w= .ok (vT 27 ⟨w.heap.size,0,none⟩ 130) (w.alloc (.cells #[.int .i64 x] 27)):=by kernel_rfl
theorem ty_pp (a:Addr) (w:World):(ReflectliteValue.methodAny (ReflectliteValue.valueError "reflectlite.Value.Type" 0) (fun t _ _ _=>ReflectliteType.toType t) #[vT 146 a 150]).run Tryz.prog w= .ok (.iface 170 (rT 146)) w:=by kernel_rfl
theorem ty_pe (a:Addr) (w:World):(ReflectliteValue.methodAny (ReflectliteValue.valueError "reflectlite.Value.Type" 0) (fun t _ _ _=>ReflectliteType.toType t) #[vT 147 a 150]).run Tryz.prog w= .ok (.iface 170 (rT 147)) w:=by kernel_rfl
theorem mt_Kind (h:Value) (w:World):(Go.method 319 170 (.agg #[h]) "Kind").run Tryz.prog w= .ok (146,h) w:=by kernel_rfl
theorem mt_Elem (h:Value) (w:World):(Go.method 319 170 (.agg #[h]) "Elem").run Tryz.prog w= .ok (158, .agg #[h]) w:=by kernel_rfl
theorem mt_Implements (h:Value) (w:World):(Go.method 319 170 (.agg #[h]) "Implements").run Tryz.prog w= .ok (159, .agg #[h]) w:=by kernel_rfl
theorem mt_AssignableTo (h:Value) (w:World):(Go.method 319 170 (.agg #[h]) "AssignableTo").run Tryz.prog w= .ok (156, .agg #[h]) w:=by kernel_rfl
theorem kd_pp (w:World):((ReflectliteType.abiMethod fun t=>(fun a:Nat=>Value.int IntKind.u8 (a:Int)) <$> Rtype.kind t) #[.pointer (some ⟨1,146,none⟩)]).run Tryz.prog w= .ok (.int .u8 22) w:=by kernel_rfl
theorem kd_pe (w:World):((ReflectliteType.abiMethod fun t=>(fun a:Nat=>Value.int IntKind.u8 (a:Int)) <$> Rtype.kind t) #[.pointer (some ⟨1,147,none⟩)]).run Tryz.prog w= .ok (.int .u8 22) w:=by kernel_rfl
theorem kd_p (w:World):((ReflectliteType.abiMethod fun t=>(fun a:Nat=>Value.int IntKind.u8 (a:Int)) <$> Rtype.kind t) #[.pointer (some ⟨1,144,none⟩)]).run Tryz.prog w= .ok (.int .u8 22) w:=by kernel_rfl
theorem kd_e (w:World):((ReflectliteType.abiMethod fun t=>(fun a:Nat=>Value.int IntKind.u8 (a:Int)) <$> Rtype.kind t) #[.pointer (some ⟨1,27,none⟩)]).run Tryz.prog w= .ok (.int .u8 2) w:=by kernel_rfl
theorem el_pp (w:World):(ReflectliteType.method ReflectliteType.elem #[rT 146]).run Tryz.prog w= .ok (.iface 170 (rT 144)) w:=by kernel_rfl
theorem el_pe (w:World):(ReflectliteType.method ReflectliteType.elem #[rT 147]).run Tryz.prog w= .ok (.iface 170 (rT 27)) w:=by kernel_rfl
theorem im_p (w:World):(ReflectliteType.relation "Implements" ReflectliteType.implements_ #[rT 144, .iface 170 (rT 141)]).run Tryz.prog w= .ok (.bool true) w:=by kernel_rfl
theorem to_p (v:Value) (w:World):(ReflectliteType.typeOf #[.iface 144 v]).run Tryz.prog w= .ok (.iface 170 (rT 144)) w:=by kernel_rfl
theorem im_e (w:World):(ReflectliteType.relation "Implements" ReflectliteType.implements_ #[rT 27, .iface 170 (rT 141)]).run Tryz.prog w= .ok (.bool true) w:=by kernel_rfl
theorem to_e (v:Value) (w:World):(ReflectliteType.typeOf #[.iface 27 v]).run Tryz.prog w= .ok (.iface 170 (rT 27)) w:=by kernel_rfl
theorem as_pp (w:World):(ReflectliteType.relation "AssignableTo" ReflectliteType.assignableTo #[rT 144, .iface 170 (rT 144)]).run Tryz.prog w= .ok (.bool true) w:=by kernel_rfl
theorem as_pe (w:World):(ReflectliteType.relation "AssignableTo" ReflectliteType.assignableTo #[rT 144, .iface 170 (rT 27)]).run Tryz.prog w= .ok (.bool false) w:=by kernel_rfl
theorem as_ee (w:World):(ReflectliteType.relation "AssignableTo" ReflectliteType.assignableTo #[rT 27, .iface 170 (rT 27)]).run Tryz.prog w= .ok (.bool true) w:=by kernel_rfl
theorem pt_pp (a:Addr) (w:World):(ReflectliteValue.parts (vT 146 a 150)).run Tryz.prog w= .ok (some (146,a,150)) w:=by kernel_rfl
theorem nl_pp (a p:Addr) (W:World) (ha:W.cell? a=some (.pointer (some p))) :
  (ReflectliteValue.method (ReflectliteValue.valueError "reflectlite.Value.IsNil" 0) ReflectliteValue.isNil #[vT 146 a 150]).run Tryz.prog W= .ok (.bool false) W:=by
 change (bind (ReflectliteValue.parts (vT 146 a 150)) _:Sem Value).run _ _=_
 simp only[Sem.run_bind,pt_pp,Result.andThen]
 simp[ReflectliteValue.isNil,loadVar,isAgg,underlying,Tryz.underlying146,ha,Result.andThen]
theorem eo_pp (w:World):(Rtype.elem? 146).run Tryz.prog w= .ok (some 144) w:=by kernel_rfl
theorem pt_pe (a:Addr) (w:World):(ReflectliteValue.parts (vT 147 a 150)).run Tryz.prog w= .ok (some (147,a,150)) w:=by kernel_rfl
theorem nl_pe (a p:Addr) (W:World) (ha:W.cell? a=some (.pointer (some p))) :
  (ReflectliteValue.method (ReflectliteValue.valueError "reflectlite.Value.IsNil" 0) ReflectliteValue.isNil #[vT 147 a 150]).run Tryz.prog W= .ok (.bool false) W:=by
 change (bind (ReflectliteValue.parts (vT 147 a 150)) _:Sem Value).run _ _=_
 simp only[Sem.run_bind,pt_pe,Result.andThen]
 simp[ReflectliteValue.isNil,loadVar,isAgg,underlying,Tryz.underlying147,ha,Result.andThen]
theorem eo_pe (w:World):(Rtype.elem? 147).run Tryz.prog w= .ok (some 27) w:=by kernel_rfl
theorem mk_p (p:Addr) (w:World):(ReflectliteValue.mk 144 p ReflectliteValue.flagAddr).run Tryz.prog w= .ok (vT 144 p 406) w:=by kernel_rfl
theorem pa_p (a:Addr) (w:World):(ReflectliteValue.parts (vT 144 a 406)).run Tryz.prog w= .ok (some (144,a,406)) w:=by kernel_rfl
theorem pb_p (a:Addr) (w:World):(ReflectliteValue.parts (vT 144 a 150)).run Tryz.prog w= .ok (some (144,a,150)) w:=by kernel_rfl
theorem di_p (w:World):(Rtype.directlyAssignable 144 144).run Tryz.prog w= .ok true w:=by kernel_rfl
theorem mk_e (p:Addr) (w:World):(ReflectliteValue.mk 27 p ReflectliteValue.flagAddr).run Tryz.prog w= .ok (vT 27 p 386) w:=by kernel_rfl
theorem pa_e (a:Addr) (w:World):(ReflectliteValue.parts (vT 27 a 386)).run Tryz.prog w= .ok (some (27,a,386)) w:=by kernel_rfl
theorem pb_e (a:Addr) (w:World):(ReflectliteValue.parts (vT 27 a 130)).run Tryz.prog w= .ok (some (27,a,130)) w:=by kernel_rfl
theorem di_e (w:World):(Rtype.directlyAssignable 27 27).run Tryz.prog w= .ok true w:=by kernel_rfl
theorem ev_pp (a p:Addr) (W:World) (ha:W.cell? a=some (.pointer (some p))) :
  (ReflectliteValue.method (ReflectliteValue.valueError "reflectlite.Value.Elem" 0) ReflectliteValue.elem #[vT 146 a 150]).run Tryz.prog W= .ok (vT 144 p 406) W:=by
 change (bind (ReflectliteValue.parts (vT 146 a 150)) _:Sem Value).run _ _=_
 simp only[Sem.run_bind,pt_pp,Result.andThen]
 simp[ReflectliteValue.elem,loadVar,isAgg,underlying,Tryz.underlying146,ha,Result.andThen,eo_pp,mk_p]
theorem ev_pe (a p:Addr) (W:World) (ha:W.cell? a=some (.pointer (some p))) :
  (ReflectliteValue.method (ReflectliteValue.valueError "reflectlite.Value.Elem" 0) ReflectliteValue.elem #[vT 147 a 150]).run Tryz.prog W= .ok (vT 27 p 386) W:=by
 change (bind (ReflectliteValue.parts (vT 147 a 150)) _:Sem Value).run _ _=_
 simp only[Sem.run_bind,pt_pe,Result.andThen]
 simp[ReflectliteValue.elem,loadVar,isAgg,underlying,Tryz.underlying147,ha,Result.andThen,eo_pe,mk_e]
theorem st_p (ta b:Addr) (e:Addr) (old:Value) (W:World) (hb:W.cell? b=some (.pointer (some e))) (ht:W.cell? ta=some old) (hf:W.frozen? ta=false) :
  (ReflectliteValue.set #[vT 144 ta 406,vT 144 b 150]).run Tryz.prog W= .ok (.tuple #[]) (W.setCell ta (.pointer (some e))):=by
 change (bind (ReflectliteValue.parts (vT 144 ta 406)) fun x=>bind (ReflectliteValue.parts (vT 144 b 150)) fun y=>_:Sem Value).run _ _=_
 simp only[Sem.run_bind,pa_p,pb_p,Result.andThen]
 simp[ReflectliteValue.flagAddr,loadVar,isAgg,underlying,Tryz.underlying144,hb,Result.andThen,di_p,storeVar,Value.cells,storeCells,Addr.add]
 rw[run_store Tryz.prog W ta _ _ (by rfl)]
 simp[ht,hf]
theorem st_e (ta b:Addr) (e:Int) (old:Value) (W:World) (hb:W.cell? b=some (.int .i64 e)) (ht:W.cell? ta=some old) (hf:W.frozen? ta=false) :
  (ReflectliteValue.set #[vT 27 ta 386,vT 27 b 130]).run Tryz.prog W= .ok (.tuple #[]) (W.setCell ta (.int .i64 e)):=by
 change (bind (ReflectliteValue.parts (vT 27 ta 386)) fun x=>bind (ReflectliteValue.parts (vT 27 b 130)) fun y=>_:Sem Value).run _ _=_
 simp only[Sem.run_bind,pa_e,pb_e,Result.andThen]
 simp[ReflectliteValue.flagAddr,loadVar,isAgg,underlying,Tryz.underlying27,hb,Result.andThen,di_e,storeVar,Value.cells,storeCells,Addr.add]
 rw[run_store Tryz.prog W ta _ _ (by rfl)]
 simp[ht,hf]
open Go.RowKit Go.Extern.Stop Go.Stop Go.Extern
def AsPost (t:Addr) (v:Value) (w:World) (e:Ending) (w':World):Prop:=e= .returned (.bool true)∧ ∃W0,Below w.heap.size w W0∧w'=W0.setCell t v
def errTy (w:World):Prop:=w.cell? ⟨0,0,none⟩=some (.iface 170 (rT 141))
theorem hgl {w:World} (hg:errTy w):0<w.heap.size:=by
 unfold errTy at hg
 rcases Nat.eq_zero_or_pos w.heap.size with h0|h
 ·simp[World.cell?,h0] at hg
 ·exact h
theorem as_hit (e t:Addr) (old:Value) (w:World) (hg:errTy w) (ht0:w.cell? t=some old) (hf0:w.frozen? t=false) :
  Calls Tryz.prog 108 #[.iface 144 (.pointer (some e)), .iface 146 (.pointer (some t))] w (AsPost t (.pointer (some e)) w):=by
 have x1:= @run_callFunc_extern Tryz.prog 114 _ (fun args=>ReflectliteValue.unpack (args.getD 0 (.tuple #[]))) Tryz.func114 (by kernel_rfl) (by kernel_rfl) (by kernel_rfl) (by kernel_rfl)
 have x2:= @run_callFunc_extern Tryz.prog 115 _ (ReflectliteValue.methodAny (ReflectliteValue.valueError "reflectlite.Value.Type" 0) (fun t _ _ _=>ReflectliteType.toType t)) Tryz.func115 (by kernel_rfl) (by kernel_rfl) (by kernel_rfl) (by kernel_rfl)
 have x3:= @run_callFunc_extern Tryz.prog 116 _ (ReflectliteValue.method (ReflectliteValue.valueError "reflectlite.Value.IsNil" 0) ReflectliteValue.isNil) Tryz.func116 (by kernel_rfl) (by kernel_rfl) (by kernel_rfl) (by kernel_rfl)
 have x4:= @run_callFunc_extern Tryz.prog 146 _ (ReflectliteType.abiMethod fun t=>do pure (.int .u8 (← Rtype.kind t))) Tryz.func146 (by kernel_rfl) (by kernel_rfl) (by kernel_rfl) (by kernel_rfl)
 have x5:= @run_callFunc_extern Tryz.prog 158 _ (ReflectliteType.method ReflectliteType.elem) Tryz.func158 (by kernel_rfl) (by kernel_rfl) (by kernel_rfl) (by kernel_rfl)
 have x6:= @run_callFunc_extern Tryz.prog 159 _ (ReflectliteType.relation "Implements" ReflectliteType.implements_) Tryz.func159 (by kernel_rfl) (by kernel_rfl) (by kernel_rfl) (by kernel_rfl)
 have x7:= @run_callFunc_extern Tryz.prog 126 _ ReflectliteType.typeOf Tryz.func126 (by kernel_rfl) (by kernel_rfl) (by kernel_rfl) (by kernel_rfl)
 have x8:= @run_callFunc_extern Tryz.prog 156 _ (ReflectliteType.relation "AssignableTo" ReflectliteType.assignableTo) Tryz.func156 (by kernel_rfl) (by kernel_rfl) (by kernel_rfl) (by kernel_rfl)
 have x9:= @run_callFunc_extern Tryz.prog 127 _ (ReflectliteValue.method (ReflectliteValue.valueError "reflectlite.Value.Elem" 0) ReflectliteValue.elem) Tryz.func127 (by kernel_rfl) (by kernel_rfl) (by kernel_rfl) (by kernel_rfl)
 have x10:= @run_callFunc_extern Tryz.prog 128 _ ReflectliteValue.set Tryz.func128 (by kernel_rfl) (by kernel_rfl) (by kernel_rfl) (by kernel_rfl)
 have y1:=un_pp;have y2:=ty_pp;have y3:=mt_Kind;have y4:=kd_pp;have y5:=mt_Elem;have y6:=el_pp;have y7:=kd_p;have y8:=mt_Implements;have y9:=im_p;have y10:=to_p;have y11:=mt_AssignableTo;have y12:=as_pp;have y13:=un_p
 simp only[rT,vT] at y1 y2 y3 y4 y5 y6 y7 y8 y9 y10 y11 y12 y13
 have hlt:=hgl hg
 have htl:t.block<w.heap.size:=by
  rcases Nat.lt_or_ge t.block w.heap.size with h|h
  ·exact h
  ·simp[World.cell?,Array.getElem?_eq_none h] at ht0
 have n8:=nl_pp ⟨w.heap.size,0,none⟩ t ((w.alloc (.cells #[.pointer (some t)] 146)).alloc (.cells #[.pointer (some ⟨1,146,none⟩), .pointer (some ⟨w.heap.size,0,none⟩), .int .u64 150] 155)) (by simp)
 have hg2:((w.alloc (.cells #[.pointer (some t)] 146)).alloc (.cells #[.pointer (some ⟨1,146,none⟩), .pointer (some ⟨w.heap.size,0,none⟩), .int .u64 150] 155)).cell? ⟨0,0,none⟩=some (.iface 170 (rT 141)):=by
  rw[World.cell?_alloc_lt _ _ ⟨0,0,none⟩ (by simp),World.cell?_alloc_lt _ _ ⟨0,0,none⟩ hlt];exact hg
 have el:=ev_pp ⟨w.heap.size,0,none⟩ t (((w.alloc (.cells #[.pointer (some t)] 146)).alloc (.cells #[.pointer (some ⟨1,146,none⟩), .pointer (some ⟨w.heap.size,0,none⟩), .int .u64 150] 155)).alloc (.cells #[.pointer (some ⟨1,146,none⟩), .pointer (some ⟨w.heap.size,0,none⟩), .int .u64 150] 155)) (by simp[go_sem])
 have st:=st_p t ⟨w.heap.size+1+1+1,0,none⟩ e old ((((w.alloc (.cells #[.pointer (some t)] 146)).alloc (.cells #[.pointer (some ⟨1,146,none⟩), .pointer (some ⟨w.heap.size,0,none⟩), .int .u64 150] 155)).alloc (.cells #[.pointer (some ⟨1,146,none⟩), .pointer (some ⟨w.heap.size,0,none⟩), .int .u64 150] 155)).alloc (.cells #[.pointer (some e)] 144)) (by simp[go_sem])
  (by rw[World.cell?_alloc_lt _ _ t (by simp;omega),World.cell?_alloc_lt _ _ t (by simp;omega),World.cell?_alloc_lt _ _ t (by simp;omega),World.cell?_alloc_lt _ _ t htl];exact ht0)
  (by rw[World.frozen?_alloc_old _ _ t (by simp;omega),World.frozen?_alloc_old _ _ t (by simp;omega),World.frozen?_alloc_old _ _ t (by simp;omega),World.frozen?_alloc_old _ _ t (Nat.ne_of_lt htl)];exact hf0)
 simp only[rT,vT] at n8 hg2 el st
 go_enter Tryz.func108,Tryz.ntmps108
 go_wp2
 refine wp_loop_rounds 1 ?_
 rw[rounds_succ]
 go_wp2
 go_ret
 exact⟨rfl,_,bZ,rfl⟩
open Go.RowKit Go.Extern.Stop Go.Stop Go.Extern
theorem un_fail (a:Value) (w:World):(Go.method 319 144 a "Unwrap").run Tryz.prog w= .ok (151,a) w:=by kernel_rfl
theorem no_as (v:Value) (xT:TypeId) (w:World):(Instr.typeAssert (.iface 144 v) xT 175 true).run Tryz.prog w= .ok (.tuple #[.nilIface, .bool false]) w:=run_typeAssert_lacksB Tryz.underlying175 (by kernel_rfl) (by kernel_rfl) v xT w
theorem has_un (v:Value) (xT:TypeId) (w:World):(Instr.typeAssert (.iface 144 v) xT 178 true).run Tryz.prog w= .ok (.tuple #[.iface 144 v, .bool true]) w:=run_typeAssert_hasB Tryz.underlying178 (by kernel_rfl) v xT w
theorem as_wrap (g:Nat) (x:Int) (t:Addr) (old:Value) (w:World) (hg:errTy w) (hx:w.cell? ⟨g,1,none⟩=some (.iface 27 (.int .i64 x))) (ht0:w.cell? t=some old) (hf0:w.frozen? t=false) :
  Calls Tryz.prog 108 #[.iface 144 (.pointer (some ⟨g,0,none⟩)), .iface 147 (.pointer (some t))] w (AsPost t (.int .i64 x) w):=by
 have x1:= @run_callFunc_extern Tryz.prog 114 _ (fun args=>ReflectliteValue.unpack (args.getD 0 (.tuple #[]))) Tryz.func114 (by kernel_rfl) (by kernel_rfl) (by kernel_rfl) (by kernel_rfl)
 have x2:= @run_callFunc_extern Tryz.prog 115 _ (ReflectliteValue.methodAny (ReflectliteValue.valueError "reflectlite.Value.Type" 0) (fun t _ _ _=>ReflectliteType.toType t)) Tryz.func115 (by kernel_rfl) (by kernel_rfl) (by kernel_rfl) (by kernel_rfl)
 have x3:= @run_callFunc_extern Tryz.prog 116 _ (ReflectliteValue.method (ReflectliteValue.valueError "reflectlite.Value.IsNil" 0) ReflectliteValue.isNil) Tryz.func116 (by kernel_rfl) (by kernel_rfl) (by kernel_rfl) (by kernel_rfl)
 have x4:= @run_callFunc_extern Tryz.prog 146 _ (ReflectliteType.abiMethod fun t=>do pure (.int .u8 (← Rtype.kind t))) Tryz.func146 (by kernel_rfl) (by kernel_rfl) (by kernel_rfl) (by kernel_rfl)
 have x5:= @run_callFunc_extern Tryz.prog 158 _ (ReflectliteType.method ReflectliteType.elem) Tryz.func158 (by kernel_rfl) (by kernel_rfl) (by kernel_rfl) (by kernel_rfl)
 have x6:= @run_callFunc_extern Tryz.prog 159 _ (ReflectliteType.relation "Implements" ReflectliteType.implements_) Tryz.func159 (by kernel_rfl) (by kernel_rfl) (by kernel_rfl) (by kernel_rfl)
 have x7:= @run_callFunc_extern Tryz.prog 126 _ ReflectliteType.typeOf Tryz.func126 (by kernel_rfl) (by kernel_rfl) (by kernel_rfl) (by kernel_rfl)
 have x8:= @run_callFunc_extern Tryz.prog 156 _ (ReflectliteType.relation "AssignableTo" ReflectliteType.assignableTo) Tryz.func156 (by kernel_rfl) (by kernel_rfl) (by kernel_rfl) (by kernel_rfl)
 have x9:= @run_callFunc_extern Tryz.prog 127 _ (ReflectliteValue.method (ReflectliteValue.valueError "reflectlite.Value.Elem" 0) ReflectliteValue.elem) Tryz.func127 (by kernel_rfl) (by kernel_rfl) (by kernel_rfl) (by kernel_rfl)
 have x10:= @run_callFunc_extern Tryz.prog 128 _ ReflectliteValue.set Tryz.func128 (by kernel_rfl) (by kernel_rfl) (by kernel_rfl) (by kernel_rfl)
 have y1:=un_pe;have y2:=ty_pe;have y3:=mt_Kind;have y4:=kd_pe;have y5:=mt_Elem;have y6:=el_pe;have y7:=kd_e;have y8:=mt_Implements;have y9:=im_e;have y10:=to_p;have y11:=mt_AssignableTo;have y12:=as_pe;have y13:=un_e;have y14:=to_e;have y15:=as_ee;have y16:=un_fail;have y17:=no_as;have y18:=has_un
 simp only[rT,vT] at y1 y2 y3 y4 y5 y6 y7 y8 y9 y10 y11 y12 y13 y14 y15
 have hlt:=hgl hg
 have hgb:g<w.heap.size:=by
  rcases Nat.lt_or_ge g w.heap.size with h|h
  ·exact h
  ·simp[World.cell?,Array.getElem?_eq_none h] at hx
 have htl:t.block<w.heap.size:=by
  rcases Nat.lt_or_ge t.block w.heap.size with h|h
  ·exact h
  ·simp[World.cell?,Array.getElem?_eq_none h] at ht0
 have n8:=nl_pe ⟨w.heap.size,0,none⟩ t ((w.alloc (.cells #[.pointer (some t)] 147)).alloc (.cells #[.pointer (some ⟨1,147,none⟩), .pointer (some ⟨w.heap.size,0,none⟩), .int .u64 150] 155)) (by simp)
 have hg2:((w.alloc (.cells #[.pointer (some t)] 147)).alloc (.cells #[.pointer (some ⟨1,147,none⟩), .pointer (some ⟨w.heap.size,0,none⟩), .int .u64 150] 155)).cell? ⟨0,0,none⟩=some (.iface 170 (rT 141)):=by
  rw[World.cell?_alloc_lt _ _ ⟨0,0,none⟩ (by simp),World.cell?_alloc_lt _ _ ⟨0,0,none⟩ hlt];exact hg
 have hx3:(((w.alloc (.cells #[.pointer (some t)] 147)).alloc (.cells #[.pointer (some ⟨1,147,none⟩), .pointer (some ⟨w.heap.size,0,none⟩), .int .u64 150] 155)).alloc (.cells #[.pointer (some ⟨1,147,none⟩), .pointer (some ⟨w.heap.size,0,none⟩), .int .u64 150] 155)).cell? ⟨g,1,none⟩=some (.iface 27 (.int .i64 x)):=by
  rw[World.cell?_alloc_lt _ _ ⟨g,1,none⟩ (by simp;omega),World.cell?_alloc_lt _ _ ⟨g,1,none⟩ (by simp;omega),World.cell?_alloc_lt _ _ ⟨g,1,none⟩ hgb];exact hx
 have el:=ev_pe ⟨w.heap.size,0,none⟩ t (((w.alloc (.cells #[.pointer (some t)] 147)).alloc (.cells #[.pointer (some ⟨1,147,none⟩), .pointer (some ⟨w.heap.size,0,none⟩), .int .u64 150] 155)).alloc (.cells #[.pointer (some ⟨1,147,none⟩), .pointer (some ⟨w.heap.size,0,none⟩), .int .u64 150] 155)) (by simp[go_sem])
 have st:=st_e t ⟨w.heap.size+1+1+1,0,none⟩ x old ((((w.alloc (.cells #[.pointer (some t)] 147)).alloc (.cells #[.pointer (some ⟨1,147,none⟩), .pointer (some ⟨w.heap.size,0,none⟩), .int .u64 150] 155)).alloc (.cells #[.pointer (some ⟨1,147,none⟩), .pointer (some ⟨w.heap.size,0,none⟩), .int .u64 150] 155)).alloc (.cells #[.int .i64 x] 27)) (by simp[go_sem])
  (by rw[World.cell?_alloc_lt _ _ t (by simp;omega),World.cell?_alloc_lt _ _ t (by simp;omega),World.cell?_alloc_lt _ _ t (by simp;omega),World.cell?_alloc_lt _ _ t htl];exact ht0)
  (by rw[World.frozen?_alloc_old _ _ t (by simp;omega),World.frozen?_alloc_old _ _ t (by simp;omega),World.frozen?_alloc_old _ _ t (by simp;omega),World.frozen?_alloc_old _ _ t (Nat.ne_of_lt htl)];exact hf0)
 simp only[rT,vT] at n8 hg2 el st
 go_enter Tryz.func108,Tryz.ntmps108
 go_wp2
 refine wp_loop_rounds 2 ?_
 rw[rounds_succ]
 go_wp2
 rw[rounds_succ]
 go_wp2
 go_ret
 exact⟨rfl,_,bZ,rfl⟩
end Go.Proofs.YthpcbgljbpmafaaGreatDoor
