/- What Resolve and May tell, in forms that can be reckoned. -/
import Derived.Test.YthpcbgljbpmafaaGreatDoorU2
import Derived.Test.YthpcbgljbpmafaaGreatDoorU9
import Derived.Test.YthpcbgljbpmafaaGreatDoorU12
import Derived.Test.YthpcbgljbpmafaaGreatDoorU16
import Derived.Test.YthpcbgljbpmafaaGreatDoorU17
import Derived.Test.YthpcbgljbpmafaaGreatDoorU22
import Derived.Test.YthpcbgljbpmafaaGreatDoorU23
import Derived.Test.YthpcbgljbpmafaaGreatDoorU24
import Derived.Test.YthpcbgljbpmafaaGreatDoorU25
import Derived.Test.YthpcbgljbpmafaaGreatDoorRows
import Derived.Deep.Slices
import Derived.ChangeOld
import Derived.Carry
set_option maxRecDepth 100000
set_option maxHeartbeats 8000000
namespace Go.Proofs.YthpcbgljbpmafaaGreatDoor
open Go.RowKit
set_option linter.unusedVariables false
set_option linter.unusedSimpArgs false
def eqC (s u : ByteArray) : Bool := s.data.toList == u.data.toList
theorem eq_c : eqS = eqC := by funext s u; unfold eqS eqC; rw [ByteArray.toList_eq, ByteArray.toList_eq]
def meanC (ops bd : List ByteArray) (t : Nd) : Except Int Int :=
 if t.k = 0 then match bd.reverse.findIdx? fun u => eqC u t.nm with
  | some i => .ok i
  | none => .error 601
 else if t.k = 9 ∨ t.k = 10 then match ops.findIdx? fun u => eqC u t.nm with
  | some i => .ok i
  | none => .error 602
 else .ok t.n
theorem mean_c : meanV = meanC := by funext o b t; unfold meanV meanC nearI placeI; rw [eq_c]; rfl
def resSC (ops : List ByteArray) : Nat → List Nd → Nat → List ByteArray → Except (Int × Int) (List Nd)
 | 0, _, _, _ => .error (0, 0)
 | f + 1, st, at_, bd => match meanC ops bd (st.getD at_ nd0) with
  | .error c => .error (c, (st.getD at_ nd0).p)
  | .ok m => match kidsRun (resSC ops f) st (kidsS (st.getD at_ nd0)) bd with
   | .error e => .error e
   | .ok st' => .ok (st'.set at_ (bare (st.getD at_ nd0) m))
theorem resS_c (ops : List ByteArray) : ∀ f, resS ops f = resSC ops f
 | 0 => by funext _ _ _; rfl
 | f + 1 => by
  funext st a bd
  unfold resS resSC
  rw [resS_c ops f, mean_c]; rfl
def dupC : List ByteArray → Bool
 | [] => false
 | x :: l => l.any (fun u => eqC u x) || dupC l
theorem dup_c : ∀ l, dupB l = dupC l
 | [] => rfl
 | x :: l => by unfold dupB dupC inS; rw [dup_c l, eq_c]
def resVC (os : List Or) (ts : List Nd) : Except (Int × Int) (List Nd) :=
 if opsV os && treeC true ts then (if dupC (opN os) then .error (602, 0) else resSC (opN os) ts.length ts (ts.length - 1) []) else .error (600, 0)
theorem resV_c (os : List Or) (ts : List Nd) : resV os ts = resVC os ts := by
 unfold resV resVC mayV; rw [tree_c, dup_c, resS_c]
theorem oarg0 (w : World) (c : Option Addr) : OArg w c 0 [] := ⟨rfl, .inl rfl⟩
theorem or_sz0 : ∀ t ∈ ([] : List Or), OrSz t := by intro t ht; cases ht
open Go.RowKit
def bareC (t : Nd) : Bool := (t.nm.data.toList == []) && ((t.x.data.toList == []) && ((t.y.data.toList == []) && (t.z.data.toList == [])))
theorem bare_c : bareB = bareC := by funext t; unfold bareB bareC; simp only [ByteArray.toList_eq]
theorem smay_c (os : List Or) (ts : List Nd) : smayV os ts = ((opsV os && !dupC (opN os)) && ((decide ((0 : Int) ≤ 0 ∧ (0 : Int) < ts.length) && anyC ts) && (ts.all bareC && numsV os.length ts.length ts (ts.length - 1) 0))) := by
 unfold smayV hasV; rw [bare_c, any_c, dup_c]
theorem Pg.bar {S : Nat → Prop} {W W' : World} {g : Nat} {a a2 : Option Addr} {n c n2 c2 : Nat} (h : Pg W g a n c a2 n2 c2) (hb : Bar S W W') (hn : ¬ S g) : Pg W' g a n c a2 n2 c2 := ⟨by have := hb.size; have := h.1; omega, hb.cell h.2.1 hn, hb.cell h.2.2 hn⟩
theorem NArg.bar {S : Nat → Prop} {w w' : World} {g n : Nat} {ts : List Nd} (h : NArg w (some ⟨g, 0, none⟩) n ts) (hb : Bar S w w') (hn : ¬ S g) : NArg w' (some ⟨g, 0, none⟩) n ts := by
 obtain ⟨h1, h2 | ⟨b, off, h3, h4, h5⟩⟩ := h
 ·exact ⟨h1, .inl h2⟩
 ·injection h3 with h3; injection h3 with h6 h7 _; subst h6; subst h7
  exact ⟨h1, .inr ⟨g, 0, rfl, h4.bar hb hn, by have := hb.size; omega⟩⟩
theorem OArg.bar {S : Nat → Prop} {w w' : World} {a : Option Addr} {n : Nat} {ts : List Or} (h : OArg w a n ts) (hb : Bar S w w') (hn : ∀ b off, a = some ⟨b, off, none⟩ → ¬ S b) : OArg w' a n ts := by
 obtain ⟨h1, h2 | ⟨b, off, h3, h4, h5⟩⟩ := h
 ·exact ⟨h1, .inl h2⟩
 ·have hs := hn b off h3
  refine ⟨h1, .inr ⟨b, off, h3, fun i hi => ?_, by have := hb.size; omega⟩⟩
  obtain ⟨a1, a2, a3⟩ := h4 i hi
  exact ⟨hb.cell a1 hs, hb.cell a2 hs, hb.cell a3 hs⟩
theorem res_ok {os : List Or} {ts ss : List Nd} {w w' : World} {e : Ending} (h : ResPost os (resV os ts) w e w') (hr : resV os ts = .ok ss) :
  ∃ ao co N cn, e = .returned (.tuple #[.agg #[.slice ao os.length co, .slice (some ⟨N, 0, none⟩) ss.length cn], .int .i64 0, .int .i64 0]) ∧ Below w.heap.size w w' ∧ OwnO w.heap.size w' (.slice ao os.length co) os ∧ w.heap.size ≤ N ∧ N < w'.heap.size ∧ NdSl w' N 0 ss := by
 rw [hr] at h
 obtain ⟨ao, no, co, an, nn, cn, at_, code, rfl, hb, rfl, rfl, ho, N, rfl, rfl, h1, h2, h3, h4⟩ := h
 have hno := ho.arg.1
 subst hno
 exact ⟨ao, co, N, cn, rfl, hb, ho, h1, h2, h3⟩
open Go.RowKit
inductive PT
 | var (nm : ByteArray) | int (n : Int) | bol (n : Int)
 | fn (x : ByteArray) (a : PT) | app (a b : PT) | lt (x : ByteArray) (a b : PT) | rc (x y : ByteArray) (a b : PT)
 | cd (a b c : PT) | pr (n : Int) (a b : PT) | ac (nm : ByteArray) (a : PT) | hn (nm x y z : ByteArray) (a b c : PT)
def PT.sz : PT → Nat
 | .var _ => 1 | .int _ => 1 | .bol _ => 1
 | .fn _ a => a.sz + 1 | .app a b => a.sz + b.sz + 1 | .lt _ a b => a.sz + b.sz + 1 | .rc _ _ a b => a.sz + b.sz + 1
 | .cd a b c => a.sz + b.sz + c.sz + 1 | .pr _ a b => a.sz + b.sz + 1 | .ac _ a => a.sz + 1 | .hn _ _ _ _ a b c => a.sz + b.sz + c.sz + 1
def PT.ok : PT → Prop
 | .var nm => nmB nm.data.toList = true | .int n => 0 ≤ n ∧ n ≤ 1073741823 | .bol n => n = 0 ∨ n = 1
 | .fn x a => nmB x.data.toList = true ∧ a.ok | .app a b => a.ok ∧ b.ok | .lt x a b => nmB x.data.toList = true ∧ a.ok ∧ b.ok
 | .rc x y a b => (nmB x.data.toList = true ∧ nmB y.data.toList = true) ∧ a.ok ∧ b.ok
 | .cd a b c => a.ok ∧ b.ok ∧ c.ok | .pr n a b => (0 ≤ n ∧ n ≤ 5) ∧ a.ok ∧ b.ok | .ac nm a => nmB nm.data.toList = true ∧ a.ok
 | .hn nm x y z a b c => (nmB nm.data.toList = true ∧ nmB x.data.toList = true ∧ nmB y.data.toList = true ∧ nmB z.data.toList = true) ∧ a.ok ∧ b.ok ∧ c.ok
def PT.At (ts : List Nd) : PT → Nat → Prop
 | .var nm, i => ∃ p, ts.getD i nd0 = ⟨0, 0, 0, 0, 0, nm, ⟨#[]⟩, ⟨#[]⟩, ⟨#[]⟩, p⟩
 | .int n, i => ∃ p, ts.getD i nd0 = ⟨1, 0, 0, 0, n, ⟨#[]⟩, ⟨#[]⟩, ⟨#[]⟩, ⟨#[]⟩, p⟩
 | .bol n, i => ∃ p, ts.getD i nd0 = ⟨2, 0, 0, 0, n, ⟨#[]⟩, ⟨#[]⟩, ⟨#[]⟩, ⟨#[]⟩, p⟩
 | .fn x a, i => ∃ (j : Nat) (p : Int), i = j + 1 ∧ ts.getD i nd0 = ⟨3, j, 0, 0, 0, ⟨#[]⟩, x, ⟨#[]⟩, ⟨#[]⟩, p⟩ ∧ a.At ts j
 | .app a b, i => ∃ (j k : Nat) (p : Int), i = k + 1 ∧ k = j + b.sz ∧ ts.getD i nd0 = ⟨4, j, k, 0, 0, ⟨#[]⟩, ⟨#[]⟩, ⟨#[]⟩, ⟨#[]⟩, p⟩ ∧ a.At ts j ∧ b.At ts k
 | .lt x a b, i => ∃ (j k : Nat) (p : Int), i = k + 1 ∧ k = j + b.sz ∧ ts.getD i nd0 = ⟨5, j, k, 0, 0, ⟨#[]⟩, x, ⟨#[]⟩, ⟨#[]⟩, p⟩ ∧ a.At ts j ∧ b.At ts k
 | .rc x y a b, i => ∃ (j k : Nat) (p : Int), i = k + 1 ∧ k = j + b.sz ∧ ts.getD i nd0 = ⟨6, j, k, 0, 0, ⟨#[]⟩, x, y, ⟨#[]⟩, p⟩ ∧ a.At ts j ∧ b.At ts k
 | .cd a b c, i => ∃ (j k m : Nat) (p : Int), i = m + 1 ∧ m = k + c.sz ∧ k = j + b.sz ∧ ts.getD i nd0 = ⟨7, j, k, m, 0, ⟨#[]⟩, ⟨#[]⟩, ⟨#[]⟩, ⟨#[]⟩, p⟩ ∧ a.At ts j ∧ b.At ts k ∧ c.At ts m
 | .pr n a b, i => ∃ (j k : Nat) (p : Int), i = k + 1 ∧ k = j + b.sz ∧ ts.getD i nd0 = ⟨8, j, k, 0, n, ⟨#[]⟩, ⟨#[]⟩, ⟨#[]⟩, ⟨#[]⟩, p⟩ ∧ a.At ts j ∧ b.At ts k
 | .ac nm a, i => ∃ (j : Nat) (p : Int), i = j + 1 ∧ ts.getD i nd0 = ⟨9, j, 0, 0, 0, nm, ⟨#[]⟩, ⟨#[]⟩, ⟨#[]⟩, p⟩ ∧ a.At ts j
 | .hn nm x y z a b c, i => ∃ (j k m : Nat) (p : Int), i = m + 1 ∧ m = k + c.sz ∧ k = j + b.sz ∧ ts.getD i nd0 = ⟨10, j, k, m, 0, nm, x, y, z, p⟩ ∧ a.At ts j ∧ b.At ts k ∧ c.At ts m
theorem PT.At.sz {ts : List Nd} : ∀ {T : PT} {i : Nat}, T.At ts i → T.sz ≤ i + 1
 | .var _, i, _ => by simp [PT.sz]
 | .int _, i, _ => by simp [PT.sz]
 | .bol _, i, _ => by simp [PT.sz]
 | .fn x a, i, h => by obtain ⟨j, p, rfl, _, ha⟩ := h; have := ha.sz; simp only [PT.sz]; omega
 | .app a b, i, h => by obtain ⟨j, k, p, rfl, rfl, _, ha, hb⟩ := h; have := ha.sz; simp only [PT.sz]; omega
 | .lt x a b, i, h => by obtain ⟨j, k, p, rfl, rfl, _, ha, hb⟩ := h; have := ha.sz; simp only [PT.sz]; omega
 | .rc x y a b, i, h => by obtain ⟨j, k, p, rfl, rfl, _, ha, hb⟩ := h; have := ha.sz; simp only [PT.sz]; omega
 | .cd a b c, i, h => by obtain ⟨j, k, m, p, rfl, rfl, rfl, _, ha, hb⟩ := h; have := ha.sz; simp only [PT.sz]; omega
 | .pr n a b, i, h => by obtain ⟨j, k, p, rfl, rfl, _, ha, hb⟩ := h; have := ha.sz; simp only [PT.sz]; omega
 | .ac nm a, i, h => by obtain ⟨j, p, rfl, _, ha⟩ := h; have := ha.sz; simp only [PT.sz]; omega
 | .hn nm x y z a b c, i, h => by obtain ⟨j, k, m, p, rfl, rfl, rfl, _, ha, hb⟩ := h; have := ha.sz; simp only [PT.sz]; omega
def PT.atm : PT → Bool
 | .var _ => true | .int _ => true | .bol _ => true | .hn _ _ _ _ _ _ _ => true | _ => false
open Go.RowKit
theorem sameProg_any (ao an bo bn : Option Addr) (no co nn cn mo do_ mn dn : Nat) (os : List Or) (ts : List Nd) (w : World) (h1 : Hid (OArg w ao no os)) (h2 : Hid (NArg w an nn ts)) (h3 : Hid (OArg w bo mo os)) (h4 : Hid (NArg w bn mn ts)) (hl1 : no ≤ 140737488351232) (hl2 : nn ≤ 140737488351232) :
  Calls Tryz.prog 10 #[.agg #[.slice ao no co, .slice an nn cn], .agg #[.slice bo mo do_, .slice bn mn dn]] w fun e w' => e = .returned (.bool true) ∧ Below w.heap.size w w' := by
 go_enter Tryz.func10, Tryz.ntmps10
 go_upto_region 1 with fail
 obtain ⟨w0, hw0⟩ : ∃ W, ((w.alloc (.cells #[.slice ao no co, .slice an nn cn] 25)).alloc (.cells #[.slice bo mo do_, .slice bn mn dn] 25)) = W := ⟨_, rfl⟩
 have hP : Hid (Pg w0 w.heap.size ao no co an nn cn) := Lib.hid (by rw [← hw0]; exact (pg_lit w 25 _ rfl _ _ _ _ _ _).below (below_alc _ _))
 have hQ : Hid (Pg w0 (w.heap.size + 1) bo mo do_ bn mn dn) := Lib.hid (by rw [← hw0]; exact pg_lit _ _ _ (by simp) _ _ _ _ _ _)
 have hB : Hid (Below w.heap.size w w0) := Lib.hid (by rw [← hw0]; exact belA _ (below_alc _ _))
 rw [hw0]
 clear hw0
 have kO := Lib.hid (sameOps_any ao bo no mo co do_ os os w0 (Lib.hid (h1.out.below hB.out)) (Lib.hid (h3.out.below hB.out)) hl1)
 rw [sameVO_self] at kO
 obtain ⟨q0, q1, q2⟩ := hP.out
 obtain ⟨r0, r1, r2⟩ := hQ.out
 go_wp2_with fail
 clear q0 q1 q2 r0 r1 r2
 refine kO.out.mono ?_
 rintro e w1 ⟨rfl, hb⟩
 have hP := Lib.hid (hP.out.below hb)
 have hQ := Lib.hid (hQ.out.below hb)
 have hB := Lib.hid (belT hB.out hb)
 clear hb kO
 have kN := Lib.hid (sameNodes_any an bn nn mn cn dn ts ts w1 (Lib.hid (h2.out.below hB.out)) (Lib.hid (h4.out.below hB.out)) hl2)
 rw [sameV_self ndE_self] at kN
 obtain ⟨q0, q1, q2⟩ := hP.out
 obtain ⟨r0, r1, r2⟩ := hQ.out
 go_wp2_with fail
 clear q0 q1 q2 r0 r1 r2
 refine kN.out.mono ?_
 rintro e w2 ⟨rfl, hb⟩
 have hB := Lib.hid (belT hB.out hb)
 clear hb kN
 go_wp2_with fail
 go_ret
 exact ⟨rfl, hB.out⟩
open Go.RowKit
open Go.RowKit
theorem addr_plus (b off k : Nat) : (⟨b, off, none⟩ : Addr).add k = ⟨b, off + k, none⟩ := by
 unfold Addr.add
 by_cases h : k = 0 <;> simp [h]
def IArg (w : World) (p : Option Addr) (n : Nat) (l : List Int) : Prop :=
 l.length = n ∧ (n = 0 ∨ ∃ b off, p = some ⟨b, off, none⟩ ∧ (∀ i, i < l.length → w.cell? ⟨b, off + i, none⟩ = some (.int .i64 (l.getD i 0))) ∧ b < w.heap.size)
theorem IArg.below {B : Nat} {w w' : World} {p : Option Addr} {n : Nat} {l : List Int} (h : IArg w p n l) (hb : Below B w w') (hB : w.heap.size ≤ B) : IArg w' p n l := by
 obtain ⟨hn, h0 | ⟨b, off, rfl, hs, hbl⟩⟩ := h
 ·exact ⟨hn, .inl h0⟩
 ·exact ⟨hn, .inr ⟨b, off, rfl, fun i hi => by rw [hb.cell (p := ⟨b, off + i, none⟩) (show b < B by omega)]; exact hs i hi, by have := hb.size; omega⟩⟩
theorem ints_of_cells (W : World) (b off : Nat) : ∀ (n : Nat), (∀ i, i < n → ∃ x : Int, W.cell? ⟨b, off + i, none⟩ = some (.int .i64 x)) → ∃ l : List Int, l.length = n ∧ ∀ i, i < l.length → W.cell? ⟨b, off + i, none⟩ = some (.int .i64 (l.getD i 0)) := by
 intro n
 induction n with
 | zero => intro _; exact ⟨[], rfl, fun i hi => by simp at hi⟩
 | succ n ih =>
  intro h
  obtain ⟨l, hl, hs⟩ := ih (fun i hi => h i (by omega))
  obtain ⟨x, hx⟩ := h n (by omega)
  refine ⟨l ++ [x], by simp [hl], ?_⟩
  intro i hi
  by_cases hin : i < n
  ·have := hs i (by omega)
   rwa [List.getD_eq_getElem?_getD, List.getElem?_append_left (by omega), ← List.getD_eq_getElem?_getD]
  ·obtain rfl : i = n := by simp [hl] at hi; omega
   rw [List.getD_eq_getElem?_getD, List.getElem?_append_right (by omega), hl, Nat.sub_self]
   exact hx
section
open Go.ChangeShapes Go.WideShapes Go.Deep
variable {H : Type} {enc : TypeId × Value → H} {P : Program} {w : World} {base : Nat} {spare : Nat → Bool} {held : Bool}
theorem ints_arg {t e fuel : Nat} {p : Option Addr} {len cap : Nat} {x : DataW H × List MemPlace} (ht : P.underlying t = some (.slice e)) (he : P.underlying e = some (.int .i64)) (hC : P.cellsOf e = 1)
  (h : DataW.trod enc P w base spare held fuel t [.slice p len cap] = some x) :
  len = 0 ∨ ∃ b off, p = some ⟨b, off, none⟩ ∧ ∀ i, i < len → ∃ n : Int, w.cell? ⟨b, off + i, none⟩ = some (.int .i64 n) := by
 rcases open_slice ht h with ⟨hcs, _⟩ | ⟨a, len', cap', m, fu, D, Pl, hcs, _, hlc, _, hm, _, hi⟩
 ·simp at hcs
  exact .inl hcs.2.1
 ·simp only [List.cons.injEq, Value.slice.injEq, and_true] at hcs
  obtain ⟨rfl, rfl, rfl⟩ := hcs
  by_cases h0 : len = 0
  ·exact .inl h0
  have hml : len ≤ m := by rw [hm]; split <;> omega
  have key : ∀ i, i < len → ∃ n : Int, w.cell? (a.add i) = some (.int .i64 n) := by
   intro i hil
   obtain ⟨cs', hc, hd⟩ := hi i (by omega)
   rw [hC] at hc
   obtain ⟨_, _, hat⟩ := World.cells?_some hc
   obtain ⟨n, hn, _, _⟩ := DataW.trod_int he hd
   refine ⟨n, ?_⟩
   have hcell := hat 0 (by omega)
   rw [add_add, Nat.mul_one, Nat.add_zero] at hcell
   rw [hcell, hn]
   rfl
  obtain ⟨n0, hn0⟩ := key 0 (by omega)
  obtain ⟨b, off, sp⟩ := a
  have hsp : sp = none := by
   have := World.cell?_spot hn0
   simpa [Addr.add] using this
  subst hsp
  refine .inr ⟨b, off, rfl, ?_⟩
  intro i hil
  obtain ⟨n, hn⟩ := key i hil
  rw [addr_plus] at hn
  exact ⟨n, hn⟩
end
section
open Go.ChangeShapes Go.WideShapes Go.Deep
variable {H : Type} {enc : TypeId × Value → H} {P : Program} {w : World} {base : Nat} {spare : Nat → Bool} {held : Bool}
theorem ints_len {t e fuel : Nat} {p : Option Addr} {len cap : Nat} {x : DataW H × List MemPlace} (ht : P.underlying t = some (.slice e))
  (h : DataW.trod enc P w base spare held fuel t [.slice p len cap] = some x) : len ≤ 9223372036854775807 := by
 rcases open_slice ht h with ⟨hcs, _⟩ | ⟨a, len', cap', m, fu, D, Pl, hcs, _, hlc, hcm, hm, _, hi⟩
 ·simp at hcs; omega
 ·simp only [List.cons.injEq, Value.slice.injEq, and_true] at hcs
  obtain ⟨rfl, rfl, rfl⟩ := hcs
  unfold maxLen at hcm
  omega
theorem ints_open {t e fuel : Nat} {p : Option Addr} {len cap : Nat} {x : DataW H × List MemPlace} (ht : P.underlying t = some (.slice e)) (he : P.underlying e = some (.int .i64)) (hC : P.cellsOf e = 1)
  (h : DataW.trod enc P w base spare held fuel t [.slice p len cap] = some x) : len ≤ 9223372036854775807 ∧ ∃ l : List Int, IArg w p len l := by
 refine ⟨ints_len ht h, ?_⟩
 rcases ints_arg ht he hC h with h0 | ⟨b, off, rfl, hc⟩
 ·exact ⟨[], by rw [h0]; rfl, .inl h0⟩
 ·by_cases h0 : len = 0
  ·exact ⟨[], by rw [h0]; rfl, .inl h0⟩
  obtain ⟨l, hl, hs⟩ := ints_of_cells w b off len hc
  exact ⟨l, hl, .inr ⟨b, off, rfl, hs, World.block_lt_of_cell? _ _ (hs 0 (by omega))⟩⟩
end
end Go.Proofs.YthpcbgljbpmafaaGreatDoor
