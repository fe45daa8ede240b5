/- The reference's tidier: folded. -/
import Derived.Test.YthpcbgljbpmafaaGreatDoorW4
import Derived.Test.YthpcbgljbpmafaaGreatDoorW21
import Derived.Test.YthpcbgljbpmafaaGreatDoorW22
import Derived.Test.YthpcbgljbpmafaaGreatDoorW27
import Derived.Test.YthpcbgljbpmafaaGreatDoorChecked
import Derived.OpenShut
import Derived.ShutString
import Derived.ChangeOld
import Derived.Below
import Derived.SizedLaws
import Derived.Carry
import Derived.Lib.SmallJoins
import Derived.WideShapes
set_option maxRecDepth 100000
set_option maxHeartbeats 8000000
namespace Go.Proofs.YthpcbgljbpmafaaGreatDoor
open Go.RowKit
set_option linter.unusedVariables false
set_option linter.unusedSimpArgs false
theorem rfold_len (B G:Nat) (sv:Value) (ts:List Nd) (w:World) (mv:Value) (m:List Nd) (f:Nat) (k a b c n:Int) (nm u y z:ByteArray) (at_:Int) (h:Hid (TdW B G sv ts w mv m)) (hf:m.length≠f+2) (hfl:f≤600) :
  Calls Tryz.prog 45 #[.pointer (some ⟨G,0,none⟩), .int .i64 f, .agg #[.int .i64 k, .int .i64 a, .int .i64 b, .int .i64 c, .int .i64 n, .string nm, .string u, .string y, .string z, .int .i64 at_]] w fun e w'=>e= .returned (.bool false)∧Below w.heap.size w w':=by
 obtain⟨ma,mc,rfl⟩:=own_sl h.out.own
 have hcm:=h.out.cm
 have hGl:G<w.heap.size:=by have:=h.out.gB;have:=h.out.bl;omega
 have hml:m.length≤600:=h.out.ml
 have hne : ¬ (m.length:Int)=(f:Int)+2:=by omega
 have hf0:(0:Int)≤(f:Int):=by omega
 have hf6:(f:Int)≤600:=by omega
 clear hf
 go_enter Tryz.func45,Tryz.ntmps45
 go_wp2_with fail
 go_ret
 exact⟨rfl,bZ⟩
theorem fold_at {B G:Nat} {sv:Value} {ts:List Nd} {w:World} {mv:Value} {m:List Nd} {f:Nat} (h:TdW B G sv ts w mv m) (hf:m.length=f+2) : ∃g cc,mv= .slice (some ⟨g,0,none⟩) (f+2) cc∧B≤g∧g<w.heap.size∧f+2≤cc∧NdSl w g 0 m∧G<w.heap.size∧f≤598:=by
 obtain⟨ma,mc,rfl⟩:=own_sl h.own
 obtain⟨g,rfl,h1,h2,_,h3,h4⟩:=own_at h.own (p:=f) (by omega)
 have:=h.ml;have:=h.gB;have:=h.bl
 exact⟨g,mc,by rw[hf],h1,h2,by omega,h4,by omega,by omega⟩
theorem rfold_a (B G:Nat) (sv:Value) (ts:List Nd) (w:World) (mv:Value) (m:List Nd) (f:Nat) (k a b c n:Int) (nm u y z:ByteArray) (at_:Int) (h:Hid (TdW B G sv ts w mv m)) (hf:m.length=f+2) (hk : ¬ (m.getD f nd0).k=1) :
  Calls Tryz.prog 45 #[.pointer (some ⟨G,0,none⟩), .int .i64 f, .agg #[.int .i64 k, .int .i64 a, .int .i64 b, .int .i64 c, .int .i64 n, .string nm, .string u, .string y, .string z, .int .i64 at_]] w fun e w'=>e= .returned (.bool false)∧Below w.heap.size w w':=by
 obtain⟨g,cc,rfl,hBg,hgs,hcc,hS,hGl,hfl⟩:=fold_at h.out hf
 obtain⟨t0,_⟩:=hS f (by omega)
 obtain⟨s0,_⟩:=hS (f+1) (by omega)
 simp only[Nat.zero_add] at t0 s0
 generalize (m.getD f nd0).k=ka at t0 hk
 generalize (m.getD (f+1) nd0).k=kb at s0 
 have hcm:=h.out.cm
 have hf0:(0:Int)≤(f:Int):=by omega
 have hf6:(f:Int)≤598:=by omega
 clear hS hf
 go_enter Tryz.func45,Tryz.ntmps45
 go_wp2_with fail
 go_ret
 exact⟨rfl,bZ⟩
theorem rfold_b (B G:Nat) (sv:Value) (ts:List Nd) (w:World) (mv:Value) (m:List Nd) (f:Nat) (k a b c n:Int) (nm u y z:ByteArray) (at_:Int) (h:Hid (TdW B G sv ts w mv m)) (hf:m.length=f+2) (hk1:(m.getD f nd0).k=1) (hk : ¬ (m.getD (f+1) nd0).k=1) :
  Calls Tryz.prog 45 #[.pointer (some ⟨G,0,none⟩), .int .i64 f, .agg #[.int .i64 k, .int .i64 a, .int .i64 b, .int .i64 c, .int .i64 n, .string nm, .string u, .string y, .string z, .int .i64 at_]] w fun e w'=>e= .returned (.bool false)∧Below w.heap.size w w':=by
 obtain⟨g,cc,rfl,hBg,hgs,hcc,hS,hGl,hfl⟩:=fold_at h.out hf
 obtain⟨t0,_⟩:=hS f (by omega)
 obtain⟨s0,_⟩:=hS (f+1) (by omega)
 simp only[Nat.zero_add] at t0 s0
 rw[hk1] at t0
 clear hk1
 generalize (m.getD (f+1) nd0).k=kb at s0 hk
 have hcm:=h.out.cm
 have hf0:(0:Int)≤(f:Int):=by omega
 have hf6:(f:Int)≤598:=by omega
 clear hS hf
 go_enter Tryz.func45,Tryz.ntmps45
 go_wp2_with fail
 go_ret
 exact⟨rfl,bZ⟩
open Go.RowKit
def RvW (w:World) (a:Option Addr) (n c:Nat) (a2:Option Addr) (n2 c2:Nat) (W:World):Prop:=
 w.heap.size+1<W.heap.size∧W.cell? ⟨w.heap.size,0,none⟩=some (.slice a n c)∧W.cell? ⟨w.heap.size,1,none⟩=some (.slice a2 n2 c2)∧W.cell? ⟨w.heap.size+1,0,none⟩=some (.slice none 0 0)∧W.cell? ⟨w.heap.size+1,1,none⟩=some (.slice none 0 0)∧(∀o,W.frozen? ⟨w.heap.size+1,o,none⟩=false)∧Below w.heap.size w W
theorem RvW.bar {S:Nat→Prop} {w W W':World} {a a2:Option Addr} {n c n2 c2:Nat} (h:RvW w a n c a2 n2 c2 W) (hb:Bar S W W') (h1 : ¬ S w.heap.size) (h2 : ¬ S (w.heap.size+1)) (h3 : ∀k,S k→w.heap.size≤k):RvW w a n c a2 n2 c2 W':=by
 obtain⟨e0,e1,e2,e3,e4,e5,e6⟩:=h
 exact⟨by have:=hb.size;omega,hb.cell e1 h1,hb.cell e2 h1,hb.cell e3 h2,hb.cell e4 h2,fun o=>by rw[hb.frozen (a:=⟨w.heap.size+1,o,none⟩) e0 h2];exact e5 o,⟨hb.os.trans e6.os,hb.tape.trans e6.tape,hb.output.trans e6.output,by have:=hb.size;omega,fun k hk=>(hb.block k (by omega) (fun hs=>by have:=h3 k hs;omega)).trans (e6.block k hk)⟩⟩
theorem RvW.below {w W W':World} {a a2:Option Addr} {n c n2 c2:Nat} (h:RvW w a n c a2 n2 c2 W) (hb:Below W.heap.size W W'):RvW w a n c a2 n2 c2 W':=h.bar (Bar.of_below (S:=fun _=>False) hb) id id (fun _ h=>h.elim)
theorem rvW_mk (w:World) (a:Option Addr) (n c:Nat) (a2:Option Addr) (n2 c2:Nat):RvW w a n c a2 n2 c2 ((w.alloc (.cells #[.slice a n c, .slice a2 n2 c2] 25)).alloc (.cells #[.slice none 0 0, .slice none 0 0] 25)):=by
 have h0:(w.alloc (.cells #[.slice a n c, .slice a2 n2 c2] 25)).heap.size=w.heap.size+1:=by simp
 have hb:=below_alc (w.alloc (.cells #[.slice a n c, .slice a2 n2 c2] 25)) (.cells #[.slice none 0 0, .slice none 0 0] 25)
 refine⟨by simp,carry hb (by omega) ?_,carry hb (by omega) ?_, ?_, ?_,fun o=>by simp[go_sem],belA _ (below_alc _ _)⟩
 ·rw[World.cell?_alloc_at _ _ _ _ rfl];rfl
 ·rw[World.cell?_alloc_at _ _ _ _ rfl];rfl
 ·rw[World.cell?_alloc_at _ _ _ _ (by simp)];rfl
 ·rw[World.cell?_alloc_at _ _ _ _ (by simp)];rfl
theorem two_set {W:World} {r:Nat} {u0 u1:Value} (h0:W.cell? ⟨r,0,none⟩=some u0) (h1:W.cell? ⟨r,1,none⟩=some u1) (x y:Value):((W.setCell ⟨r,0,none⟩ x).setCell ⟨r,1,none⟩ y).cell? ⟨r,0,none⟩=some x∧((W.setCell ⟨r,0,none⟩ x).setCell ⟨r,1,none⟩ y).cell? ⟨r,1,none⟩=some y∧Bar (fun k=>k=r) W ((W.setCell ⟨r,0,none⟩ x).setCell ⟨r,1,none⟩ y):=
 ⟨setO (setS h0) (by simp),setS (setO h1 (by simp)),(Bar.set (S:=fun k=>k=r) ⟨r,0,none⟩ x rfl).trans (Bar.set (S:=fun k=>k=r) ⟨r,1,none⟩ y rfl) fun _ _ h=>h⟩
theorem errTy.below {w w':World} (h:errTy w) (hb:Below w.heap.size w w'):errTy w':=carry hb (hgl h) h
theorem errTy.bar {S:Nat→Prop} {w w':World} (h:errTy w) (hb:Bar S w w') (hn : ¬ S 0):errTy w':=hb.cell h hn
theorem res_err {os:List Or} {r:Except (Int × Int) (List Nd)} {c p:Int} (hr:r= .error (c,p)) {w w':World} (hb:Below w.heap.size w w'):ResPost os r w (.returned (.tuple #[.agg #[.slice none 0 0, .slice none 0 0], .int .i64 p, .int .i64 c])) w':=by
 subst hr
 exact⟨_,_,_,_,_,_,_,_,rfl,hb,rfl,rfl,rfl,rfl,rfl,rfl,rfl,rfl⟩
open Go.ChangeShapes Go.WideShapes Go.ChangeAt Go.RowKit
inductive Sc where
 | i (k:IntKind)
 | b
 | s
 | sl (t:TypeId)
 deriving DecidableEq
def flatL (g:TypeId→Option (List Sc)) (P:Program):List (TypeId × Nat)→Nat→Option (List Sc)
 | [],_=>some []
 | (t,o) :: r,k=>if o=k then (match g t with
   | some a=>if a.length=P.cellsOf t then (flatL g P r (k+a.length)).map (a ++ ·) else none
   | none=>none) else none
def whole (P:Program) (t:TypeId) (x:Option (List Sc)):Option (List Sc):=
 match x with
 | some ks=>if ks.length=P.cellsOf t then some ks else none
 | none=>none
def flat (P:Program):Nat→TypeId→Option (List Sc)
 | 0,_=>none
 | f+1,t=>match P.underlying t with
  | some .bool=>some [.b]
  | some (.int k)=>some [.i k]
  | some .string=>some [.s]
  | some (.slice _)=>some [.sl t]
  | some (.struct fs)=>whole P t (flatL (flat P f) P (fs.toList.map fun x=>(x.type,x.offset)) 0)
  | some (.array n e)=>whole P t (flatL (flat P f) P ((List.range n).map fun i=>(e,i*P.cellsOf e)) 0)
  | _=>none
def Fit (R:Sc→Value→Prop):List Sc→List Value→Prop
 | [],[]=>True
 | k :: ks,v :: vs=>R k v∧Fit R ks vs
 | _,_=>False
theorem Fit.length {R:Sc→Value→Prop} : ∀ {ks:List Sc} {vs:List Value},Fit R ks vs→ks.length=vs.length
 | [],[],_=>rfl
 | _ :: _,_ :: _,h=>congrArg Nat.succ (Fit.length h.2)
 | [],_ :: _,h=>h.elim
 | _ :: _,[],h=>h.elim
theorem Fit.append {R:Sc→Value→Prop} : ∀ {ks:List Sc} {vs:List Value} {ks':List Sc} {vs':List Value},Fit R ks vs→Fit R ks' vs'→Fit R (ks++ks') (vs++vs')
 | [],[],_,_,_,h=>h
 | _ :: _,_ :: _,_,_,h,h'=>⟨h.1,Fit.append h.2 h'⟩
 | [],_ :: _,_,_,h,_=>h.elim
 | _ :: _,[],_,_,h,_=>h.elim
theorem flatL_fit {R:Sc→Value→Prop} (g:TypeId→Option (List Sc)) (P:Program) (cs:List Value) : ∀(l:List (TypeId × Nat)) (k:Nat) (ks:List Sc),flatL g P l k=some ks→
  (∀(i:Nat) (t:TypeId) (o:Nat),l[i]? = some (t,o)→ ∀a,g t=some a→Fit R a ((cs.drop o).take (P.cellsOf t)))→k+ks.length=cs.length→Fit R ks (cs.drop k):=by
 intro l
 induction l with
 | nil=>
  intro k ks h _ hl
  simp only[flatL,Option.some.injEq] at h
  subst h
  rw[List.drop_eq_nil_of_le (by simp at hl;omega)]
  trivial
 | cons x r ih=>
  obtain⟨t,o⟩:=x
  intro k ks h hf hl
  unfold flatL at h
  by_cases ho:o=k
  ·rw[if_pos ho] at h
   subst ho
   cases hg:g t with
   | none=>rw[hg] at h;cases h
   | some a=>
    rw[hg] at h
    simp only[] at h
    by_cases ha:a.length=P.cellsOf t
    ·rw[if_pos ha] at h
     cases hr:flatL g P r (o+a.length) with
     | none=>rw[hr] at h;cases h
     | some b=>
      rw[hr] at h
      simp only[Option.map_some,Option.some.injEq] at h
      subst h
      have h1:=hf 0 t o rfl a hg
      have h2:=ih (o+a.length) b hr (fun i t' o' h'=>hf (i+1) t' o' (by simpa using h')) (by rw[List.length_append] at hl;omega)
      have h3:=h1.append h2
      rw[← ha, ← List.drop_drop,List.take_append_drop] at h3
      exact h3
    ·rw[if_neg ha] at h;cases h
  ·rw[if_neg ho] at h;cases h
section
variable {H : Type} {enc : TypeId × Value → H} {P : Program} {w : World} {base : Nat} {sp : Nat → Bool} {held : Bool}
def ScOk (enc:TypeId × Value→H) (P:Program) (w:World) (base:Nat) (sp:Nat→Bool) (held:Bool):Sc→Value→Prop
 | .i k,v=> ∃n,v= .int k n∧(Lit.int k n).wf=true
 | .b,v=> ∃x,v= .bool x
 | .s,v=> ∃x,v= .string x∧x.size≤reachBytes
 | .sl t,v=> ∃a l c fuel y,v= .slice a l c∧DataW.trod enc P w base sp held fuel t [v]=some y∧ ∀x∈DataW.weights P t y.1,x≤reachBytes
theorem trod_bool_form {fuel:Nat} {t:TypeId} {cs:List Value} {x:DataW H × List MemPlace} (ht:P.underlying t=some .bool) (h:DataW.trod enc P w base sp held fuel t cs=some x) : ∃b,cs=[.bool b]:=by
 cases fuel with
 | zero=>simp[DataW.trod] at h
 | succ n=>
  unfold DataW.trod at h
  rw[ht] at h
  split at h<;>simp_all
theorem weightsAll_mem {e:TypeId} : ∀(ds:List (DataW H)) (j:Nat) (d:DataW H),ds[j]? = some d→ ∀x∈DataW.weights P e d,x∈DataW.weightsAll P e ds
 | [],_,_,h,_,_=>by simp at h
 | d :: r,0,_,h,x,hx=>by
  simp only[List.getElem?_cons_zero,Option.some.injEq] at h
  subst h
  simp only[DataW.weightsAll,List.mem_append];exact .inl hx
 | d :: r,j+1,d',h,x,hx=>by
  simp only[DataW.weightsAll,List.mem_append];exact .inr (weightsAll_mem r j d' (by simpa using h) x hx)
theorem whole_some {t:TypeId} {x:Option (List Sc)} {ks:List Sc} (h:whole P t x=some ks):x=some ks∧ks.length=P.cellsOf t:=by
 unfold whole at h
 cases x with
 | none=>cases h
 | some a=>
  simp only[] at h
  by_cases hl:a.length=P.cellsOf t
  ·rw[if_pos hl,Option.some.injEq] at h;subst h;exact⟨rfl,hl⟩
  ·rw[if_neg hl] at h;cases h
theorem flat_fit : ∀ (f fuel : Nat) (t : TypeId) (cs : List Value) (y : DataW H × List MemPlace) (ks : List Sc), flat P f t = some ks → DataW.trod enc P w base sp held fuel t cs = some y →
    (∀ x ∈ DataW.weights P t y.1, x ≤ reachBytes) → Fit (ScOk enc P w base sp held) ks cs := by
  intro f
  induction f with
  | zero => intro _ _ _ _ _ h; cases h
  | succ f ih =>
    intro fuel t cs y ks h hy hw
    unfold flat at h
    cases hu : P.underlying t with
    | none => rw [hu] at h; cases h
    | some U =>
      rw [hu] at h
      cases U <;> simp only [Option.some.injEq, reduceCtorEq] at h
      case bool =>
        subst h
        obtain ⟨b, rfl⟩ := trod_bool_form hu hy
        exact ⟨⟨b, rfl⟩, trivial⟩
      case int k =>
        subst h
        obtain ⟨n, rfl, _, hwf⟩ := DataW.trod_int hu hy
        exact ⟨⟨n, rfl, hwf⟩, trivial⟩
      case string =>
        subst h
        obtain ⟨s, rfl, rfl, _⟩ := DataW.trod_string hu hy
        refine ⟨⟨s, rfl, ?_⟩, trivial⟩
        have e : s.size = s.data.toList.length := by simp
        rw [e]
        exact hw s.data.toList.length (by simp only [DataW.weights, List.mem_singleton])
      case slice e =>
        subst h
        obtain ⟨a, l, c, rfl⟩ := Joins.slice_form hu hy
        exact ⟨⟨a, l, c, fuel, y, rfl, hy, hw⟩, trivial⟩
      case struct fs =>
        obtain ⟨hx, hlen⟩ := whole_some h
        obtain ⟨xs, n, rfl, rfl, hl, hxl, hf⟩ := DataW.trod_struct hu hy
        have := flatL_fit (R := ScOk enc P w base sp held) (flat P f) P cs _ 0 ks hx (by
          intro i t' o' hi a ha
          rw [List.getElem?_map] at hi
          cases hfi : fs.toList[i]? with
          | none => rw [hfi] at hi; cases hi
          | some fd =>
            rw [hfi] at hi
            simp only [Option.map_some, Option.some.injEq, Prod.mk.injEq] at hi
            obtain ⟨rfl, rfl⟩ := hi
            have hfi' : fs[i]? = some fd := by simpa using hfi
            have hil : i < xs.length := by rw [hxl]; exact (Array.getElem?_eq_some_iff.1 hfi').1
            have h1 := hf i fd hfi'
            rw [List.getElem?_eq_getElem hil] at h1
            refine ih n _ _ _ _ ha h1 fun x hxw => hw x ?_
            simp only [DataW.weights, hu]
            exact DataW.weights_mem_each (j := i) (by rw [List.getElem?_map, hfi]; rfl) (by rw [List.getElem?_map, List.getElem?_eq_getElem hil]; rfl) x hxw) (by rw [hl]; omega)
        simpa using this
      case array n e =>
        obtain ⟨hx, hlen⟩ := whole_some h
        obtain ⟨xs, m, rfl, rfl, hl, hxl, hf⟩ := DataW.trod_array hu hy
        have := flatL_fit (R := ScOk enc P w base sp held) (flat P f) P cs _ 0 ks hx (by
          intro i t' o' hi a ha
          rw [List.getElem?_map] at hi
          by_cases hin : i < n
          · rw [List.getElem?_range hin] at hi
            simp only [Option.map_some, Option.some.injEq, Prod.mk.injEq] at hi
            obtain ⟨rfl, rfl⟩ := hi
            have hil : i < xs.length := by omega
            have h1 := hf i hin
            rw [List.getElem?_eq_getElem hil] at h1
            refine ih m _ _ _ _ ha h1 fun x hxw => hw x ?_
            simp only [DataW.weights, hu]
            exact weightsAll_mem _ i _ (by rw [List.getElem?_map, List.getElem?_eq_getElem hil]; rfl) x hxw
          · rw [List.getElem?_eq_none (by simp; omega)] at hi; cases hi) (by rw [hl]; omega)
        simpa using this
theorem fit_i {R:Sc→Value→Prop} {k:Sc} {ks:List Sc} {cs:List Value} (h:Fit R (k :: ks) cs) : ∃v vs,cs=v :: vs∧R k v∧Fit R ks vs:=by
 cases cs with
 | nil=>exact h.elim
 | cons v vs=>exact⟨v,vs,rfl,h.1,h.2⟩
theorem fit_nil {R:Sc→Value→Prop} {cs:List Value} (h:Fit R [] cs):cs=[]:=by
 cases cs with
 | nil=>rfl
 | cons v vs=>exact h.elim
theorem open_struct {r:Reach} {b0:Nat} {t:TypeId} {fs:Array Field} {v:Value} {d:DataW H} {p:List MemPlace} {f:Nat} {ks:List Sc} (hs:P.underlying t=some (.struct fs)) (hk:flat P f t=some ks)
  (hv:Value.okWide P w r b0 t v) (h:DataW.Trod enc P w base sp held t v d p) (hw : ∀x∈DataW.weights P t d,x≤reachBytes) : ∃cs:List Value,v= .agg cs.toArray∧Fit (ScOk enc P w base sp held) ks cs:=by
 obtain⟨cs,rfl,hsz⟩:=okWide_struct hs hv
 obtain⟨fuel,hf⟩:=h
 exact⟨cs.toList,by simp,flat_fit f fuel t cs.toList (d,p) ks hk (by simpa [Value.cells] using hf) hw⟩
end
theorem sized_of {H:Type} {P:Program} {ts:List TypeId} {ds:List (DataW H)} (h:(DataW.weightsEach P ts ds).all (· ≤ reachBytes)=true) {j:Nat} {t:TypeId} {d:DataW H} (ht:ts[j]? = some t) (hd:ds[j]? = some d) : ∀x∈DataW.weights P t d,x≤reachBytes:=by
 intro x hx
 have:=List.all_eq_true.1 h _ (DataW.weights_mem_each ht hd x hx)
 simpa using this
theorem reach_le {n:Nat} (h:n≤reachBytes):n≤140737488351232:=h
end Go.Proofs.YthpcbgljbpmafaaGreatDoor
