/- The values of layer 21's machine in memory. -/
import Derived.Test.YtnjalpcmjkahkaaZt8
import Derived.Test.YtnjalpcmjkahkaaZt9
import Derived.Test.YtnjalpcmjkahkaaZt16
set_option maxRecDepth 100000
set_option maxHeartbeats 8000000
namespace Go.Proofs.Ytnjalpcmjkahkaa
open Go.RowKit
set_option linter.unusedVariables false
set_option linter.unusedSimpArgs false
def ThO (W : World) (g o : Nat) (t : Th) : Prop := W.cell? ⟨g, o, none⟩ = some (.int .i64 t.a) ∧ W.cell? ⟨g, o + 1, none⟩ = some (.int .i64 t.b) ∧ W.cell? ⟨g, o + 2, none⟩ = some (.pointer t.c) ∧ W.cell? ⟨g, o + 3, none⟩ = some (.pointer t.d) ∧ W.cell? ⟨g, o + 4, none⟩ = some (.pointer t.e)
theorem ThO.bar {S : Nat → Prop} {W W' : World} {g o : Nat} {t : Th} (h : ThO W g o t) (hb : Bar S W W') (hn : ¬ S g) : ThO W' g o t :=
 ⟨hb.cell h.1 hn, hb.cell h.2.1 hn, hb.cell h.2.2.1 hn, hb.cell h.2.2.2.1 hn, hb.cell h.2.2.2.2 hn⟩
def BxC (A : Nat → Prop) (W : World) (p : Option Addr) (t : Th) : Prop := ∃ g o, p = some ⟨g, o, none⟩ ∧ g < W.heap.size ∧ ¬ A g ∧ ThO W g o t
theorem BxC.bar {A S : Nat → Prop} {W W' : World} {p : Option Addr} {t : Th} (h : BxC A W p t) (hb : Bar S W W') (hS : ∀ k, S k → A k) : BxC A W' p t := by
 obtain ⟨g, o, rfl, hg, hn, hc⟩ := h
 exact ⟨g, o, rfl, by have := hb.size; omega, hn, hc.bar hb fun hs => hn (hS _ hs)⟩
theorem BxC.wide {A A' : Nat → Prop} {W : World} {p : Option Addr} {t : Th} (h : BxC A W p t) (hA : ∀ k, k < W.heap.size → A' k → A k) : BxC A' W p t := by
 obtain ⟨g, o, rfl, hg, hn, hc⟩ := h
 exact ⟨g, o, rfl, hg, fun h => hn (hA _ hg h), hc⟩
def RR (A : Nat → Prop) (W : World) : RV → Th ⊕ List Th → Prop
 | .num n, x => x = .inl ⟨0, n, none, none, none⟩
 | .tru n, x => x = .inl ⟨1, n, none, none, none⟩
 | .fn node env, x => ∃ c l, x = .inl ⟨2, node, c, none, none⟩ ∧ EnR W (.pointer c) l ∧ RR A W env (.inr l)
 | .bnd node env f, x => ∃ c l d t, x = .inl ⟨3, node, c, d, none⟩ ∧ EnR W (.pointer c) l ∧ RR A W env (.inr l) ∧ BxC A W d t ∧ RR A W f (.inl t)
 | .fwd f who, x => ∃ d t e u, x = .inl ⟨4, 0, none, d, e⟩ ∧ BxC A W d t ∧ RR A W f (.inl t) ∧ BxC A W e u ∧ RR A W who (.inl u)
 | .ret v, x => ∃ d t, x = .inl ⟨5, 0, none, d, none⟩ ∧ BxC A W d t ∧ RR A W v (.inl t)
 | .op n v f, x => ∃ d t e u, x = .inl ⟨6, n, none, d, e⟩ ∧ BxC A W d t ∧ RR A W v (.inl t) ∧ BxC A W e u ∧ RR A W f (.inl u)
 | .nil, x => x = .inr []
 | .cons v r, x => ∃ t l, x = .inr (t :: l) ∧ RR A W v (.inl t) ∧ RR A W r (.inr l)
theorem RR.bar {A S : Nat → Prop} {W W' : World} (hb : Bar S W W') (hE : EnF S W) (hS : ∀ k, S k → A k) : ∀ {v : RV} {x : Th ⊕ List Th}, RR A W v x → RR A W' v x
 | .num _, _, h => h
 | .tru _, _, h => h
 | .fn _ _, _, ⟨c, l, hx, he, hr⟩ => ⟨c, l, hx, he.bar hb hE, RR.bar hb hE hS hr⟩
 | .bnd _ _ _, _, ⟨c, l, d, t, hx, he, hr, hd, hf⟩ => ⟨c, l, d, t, hx, he.bar hb hE, RR.bar hb hE hS hr, hd.bar hb hS, RR.bar hb hE hS hf⟩
 | .fwd _ _, _, ⟨d, t, e, u, hx, hd, hf, he, hg⟩ => ⟨d, t, e, u, hx, hd.bar hb hS, RR.bar hb hE hS hf, he.bar hb hS, RR.bar hb hE hS hg⟩
 | .ret _, _, ⟨d, t, hx, hd, hf⟩ => ⟨d, t, hx, hd.bar hb hS, RR.bar hb hE hS hf⟩
 | .op _ _ _, _, ⟨d, t, e, u, hx, hd, hf, he, hg⟩ => ⟨d, t, e, u, hx, hd.bar hb hS, RR.bar hb hE hS hf, he.bar hb hS, RR.bar hb hE hS hg⟩
 | .nil, _, h => h
 | .cons _ _, _, ⟨t, l, hx, hv, hr⟩ => ⟨t, l, hx, RR.bar hb hE hS hv, RR.bar hb hE hS hr⟩
theorem RR.wide {A A' : Nat → Prop} {W : World} (hA : ∀ k, k < W.heap.size → A' k → A k) : ∀ {v : RV} {x : Th ⊕ List Th}, RR A W v x → RR A' W v x
 | .num _, _, h => h
 | .tru _, _, h => h
 | .fn _ _, _, ⟨c, l, hx, he, hr⟩ => ⟨c, l, hx, he, RR.wide hA hr⟩
 | .bnd _ _ _, _, ⟨c, l, d, t, hx, he, hr, hd, hf⟩ => ⟨c, l, d, t, hx, he, RR.wide hA hr, hd.wide hA, RR.wide hA hf⟩
 | .fwd _ _, _, ⟨d, t, e, u, hx, hd, hf, he, hg⟩ => ⟨d, t, e, u, hx, hd.wide hA, RR.wide hA hf, he.wide hA, RR.wide hA hg⟩
 | .ret _, _, ⟨d, t, hx, hd, hf⟩ => ⟨d, t, hx, hd.wide hA, RR.wide hA hf⟩
 | .op _ _ _, _, ⟨d, t, e, u, hx, hd, hf, he, hg⟩ => ⟨d, t, e, u, hx, hd.wide hA, RR.wide hA hf, he.wide hA, RR.wide hA hg⟩
 | .nil, _, h => h
 | .cons _ _, _, ⟨t, l, hx, hv, hr⟩ => ⟨t, l, hx, RR.wide hA hv, RR.wide hA hr⟩
theorem RR.below {A : Nat → Prop} {W W' : World} {v : RV} {x : Th ⊕ List Th} (h : RR A W v x) (hb : Below W.heap.size W W') : RR A W' v x :=
 h.bar (Bar.of_below (S := fun _ => False) hb) (enF_no W) fun _ h => h.elim
theorem RR.len {A : Nat → Prop} {W : World} : ∀ {e : RV} {l : List Th}, RR A W e (.inr l) → e.list.length = l.length
 | .num _, _, h => by cases h
 | .tru _, _, h => by cases h
 | .fn _ _, _, ⟨_, _, h, _⟩ => by cases h
 | .bnd _ _ _, _, ⟨_, _, _, _, h, _⟩ => by cases h
 | .fwd _ _, _, ⟨_, _, _, _, h, _⟩ => by cases h
 | .ret _, _, ⟨_, _, h, _⟩ => by cases h
 | .op _ _ _, _, ⟨_, _, _, _, h, _⟩ => by cases h
 | .nil, _, h => by cases h; rfl
 | .cons _ _, _, ⟨t, l, h, _, hr⟩ => by cases h; simp only [RV.list, List.length_cons, hr.len]
theorem RR.get {A : Nat → Prop} {W : World} : ∀ {e : RV} {l : List Th} {i : Nat} {v : RV}, RR A W e (.inr l) → e.list[i]? = some v → ∃ t, l[i]? = some t ∧ RR A W v (.inl t)
 | .num _, _, _, _, h, _ => by cases h
 | .tru _, _, _, _, h, _ => by cases h
 | .fn _ _, _, _, _, ⟨_, _, h, _⟩, _ => by cases h
 | .bnd _ _ _, _, _, _, ⟨_, _, _, _, h, _⟩, _ => by cases h
 | .fwd _ _, _, _, _, ⟨_, _, _, _, h, _⟩, _ => by cases h
 | .ret _, _, _, _, ⟨_, _, h, _⟩, _ => by cases h
 | .op _ _ _, _, _, _, ⟨_, _, _, _, h, _⟩, _ => by cases h
 | .nil, _, i, _, _, hv => by cases hv
 | .cons a r, _, i, v, ⟨t, l, h, ha, hr⟩, hv => by
  cases h
  cases i with
  | zero => cases hv; exact ⟨t, rfl, ha⟩
  | succ i => exact RR.get (i := i) hr hv
theorem RR.at_ {A : Nat → Prop} {W : World} {e : RV} {l : List Th} (h : RR A W e (.inr l)) (f : Int) :
  (e.atI f = none ∧ ansE l f = none) ∨ ∃ v t, e.atI f = some v ∧ ansE l f = some t ∧ RR A W v (.inl t) := by
 have hl := h.len
 unfold RV.atI ansE
 by_cases h0 : 0 ≤ f
 ·by_cases h1 : f < l.length
  ·right
   obtain ⟨v, hv⟩ : ∃ v, e.list[f.toNat]? = some v := ⟨_, List.getElem?_eq_getElem (by omega)⟩
   obtain ⟨t, ht, hr⟩ := h.get hv
   refine ⟨v, t, by rw [if_pos h0, hv], ?_, hr⟩
   rw [if_pos ⟨h0, h1⟩, List.getD_eq_getElem?_getD, ht]; rfl
  ·left
   exact ⟨by rw [if_pos h0, List.getElem?_eq_none (by omega)], by rw [if_neg (by omega)]⟩
 ·left; exact ⟨by rw [if_neg h0], by rw [if_neg (by omega)]⟩
open Go.RowKit
def ocV (o : Int × Int) : Value := .agg #[.int .i64 o.1, .int .i64 o.2]
theorem pmNum_any (n : Int) (w : World) (h1 : -9223372036854775808 ≤ n) (h2 : n ≤ 9223372036854775807) :
  Calls Try.prog 89 #[.int .i64 n] w fun e w' => e = .returned (ocV (numO n)) ∧ Below w.heap.size w w' := by
 obtain ⟨r, hr⟩ : ∃ r, numO n = r := ⟨_, rfl⟩
 have hrr := Lib.hid (show r = if n < -1073741824 ∨ 1073741823 < n then (3, 0) else (0, n) from hr.symm)
 rw [hr]
 clear hr
 by_cases ha : n < -1073741824
 ·go_enter Try.func89, Try.ntmps89
  go_wp2_with fail
  refine bodyPost_ret (v := ocV (3, 0)) (by simp [results, Try.results89, go_sem, ocV]) rfl ⟨by rw [hrr.out, if_pos (.inl ha)], by (repeat' (first | (with_reducible first | exact bR _ _ | assumption | apply bS | apply bA | apply bD | apply bN | exact bL _) | (simp; done) | (simp; omega) | omega | exact bL _))⟩
 ·by_cases hb : 1073741823 < n
  ·go_enter Try.func89, Try.ntmps89
   go_wp2_with fail
   refine bodyPost_ret (v := ocV (3, 0)) (by simp [results, Try.results89, go_sem, ocV]) rfl ⟨by rw [hrr.out, if_pos (.inr hb)], by (repeat' (first | (with_reducible first | exact bR _ _ | assumption | apply bS | apply bA | apply bD | apply bN | exact bL _) | (simp; done) | (simp; omega) | omega | exact bL _))⟩
  ·go_enter Try.func89, Try.ntmps89
   go_wp2_with fail
   refine bodyPost_ret (v := ocV (0, n)) (by simp [results, Try.results89, go_sem, ocV]) rfl ⟨by rw [hrr.out, if_neg (by omega)], by (repeat' (first | (with_reducible first | exact bR _ _ | assumption | apply bS | apply bA | apply bD | apply bN | exact bL _) | (simp; done) | (simp; omega) | omega | exact bL _))⟩
theorem pmTru_any (b : Bool) (w : World) :
  Calls Try.prog 90 #[.bool b] w fun e w' => e = .returned (ocV (truO b)) ∧ Below w.heap.size w w' := by
 cases b
 ·go_enter Try.func90, Try.ntmps90
  go_wp2_with fail
  refine bodyPost_ret (v := ocV (1, 0)) (by simp [results, Try.results90, go_sem, ocV]) rfl ⟨rfl, by (repeat' (first | (with_reducible first | exact bR _ _ | assumption | apply bS | apply bA | apply bD | apply bN | exact bL _) | (simp; done) | (simp; omega) | omega | exact bL _))⟩
 ·go_enter Try.func90, Try.ntmps90
  go_wp2_with fail
  refine bodyPost_ret (v := ocV (1, 1)) (by simp [results, Try.results90, go_sem, ocV]) rfl ⟨rfl, by (repeat' (first | (with_reducible first | exact bR _ _ | assumption | apply bS | apply bA | apply bD | apply bN | exact bL _) | (simp; done) | (simp; omega) | omega | exact bL _))⟩
theorem bx2 {w w9 : World} {a b : Value} {T : TypeId} (hb : Below (w.alloc (.cells #[a, b] T)).heap.size (w.alloc (.cells #[a, b] T)) w9) :
  w9.cell? ⟨w.heap.size, 0, none⟩ = some a ∧ w9.cell? ⟨w.heap.size, 1, none⟩ = some b ∧ (∀ o, w9.frozen? ⟨w.heap.size, o, none⟩ = false) ∧ Below w.heap.size w w9 ∧ w.heap.size < w9.heap.size := by
 have hB := Bar.of_below (S := fun _ => False) hb
 have hsz := hb.size
 simp at hsz
 refine ⟨hB.cell (by simp [go_sem]) id, hB.cell (by simp [go_sem]) id, fun o => ?_, belT (below_alc w _) hb, by omega⟩
 rw [hB.frozen (a := ⟨w.heap.size, o, none⟩) (by simp) id]
 simp [go_sem]
theorem apply2_any (p u v : Int) (w : World) (hp : 0 ≤ p ∧ p ≤ 5) (hu : -1073741824 ≤ u ∧ u ≤ 1073741823) (hv : -1073741824 ≤ v ∧ v ≤ 1073741823) :
  Calls Try.prog 85 #[.int .i64 p, .int .i64 u, .int .i64 v] w fun e w' => e = .returned (ocV (prmV p u v)) ∧ Below w.heap.size w w' := by
 have hm : -1152921504606846976 ≤ u * v ∧ u * v ≤ 1152921504606846976 := by
  have e := Int.natAbs_mul u v
  have m : u.natAbs * v.natAbs ≤ 1073741824 * 1073741824 := Nat.mul_le_mul (by omega) (by omega)
  omega
 have hd : v ≠ 0 → -1073741824 ≤ u.tdiv v ∧ u.tdiv v ≤ 1073741824 := fun _ => by
  have e := Int.natAbs_tdiv u v
  have e : (u.tdiv v).natAbs = u.natAbs / v.natAbs := e
  have m := Nat.div_le_self u.natAbs v.natAbs
  omega
 have kN := fun (n : Int) (h1 : -9223372036854775808 ≤ n) (h2 : n ≤ 9223372036854775807) (W : World) => Lib.hid (pmNum_any n W h1 h2)
 have kT := fun (b : Bool) (W : World) => Lib.hid (pmTru_any b W)
 have w1 : IntKind.i64.wrap (u + v) = u + v := IntWalk.i64_in _ (by omega)
 have w2 : IntKind.i64.wrap (u - v) = u - v := IntWalk.i64_in _ (by omega)
 have w3 : IntKind.i64.wrap (u * v) = u * v := IntWalk.i64_in _ (by omega)
 have hc : p = 0 ∨ p = 1 ∨ p = 2 ∨ p = 3 ∨ p = 4 ∨ p = 5 := by omega
 rcases hc with rfl | rfl | rfl | rfl | rfl | rfl
 ·have hV : prmV 0 u v = numO (u + v) := rfl
  rw [hV]
  go_enter Try.func85, Try.ntmps85
  go_wp2_with fail
  refine (kN (u + v) (by omega) (by omega) _).out.mono ?_
  rintro e w9 ⟨he, hb⟩
  obtain ⟨x0, x1, x2, x3, x4⟩ := bx2 hb
  clear hb
  obtain ⟨o, ho⟩ : ∃ o, numO (u + v) = o := ⟨_, rfl⟩
  rw [ho] at he
  obtain ⟨o1, o2⟩ := o
  have e9 : ocV (o1, o2) = .agg #[.int .i64 o1, .int .i64 o2] := rfl
  rw [e9] at he
  subst he
  go_wp2_with fail
  refine bodyPost_ret (v := ocV (o1, o2)) (by simp [results, Try.results85, go_sem, ocV, x0, x1, x2, x3, x4]) rfl ⟨by rw [ho], by (repeat' (first | (with_reducible first | exact bR _ _ | assumption | apply bS | apply bA | apply bD | apply bN | exact bL _) | (simp; done) | (simp; omega) | omega | exact bL _))⟩
 ·have hV : prmV 1 u v = numO (u - v) := rfl
  rw [hV]
  go_enter Try.func85, Try.ntmps85
  go_wp2_with fail
  refine (kN (u - v) (by omega) (by omega) _).out.mono ?_
  rintro e w9 ⟨he, hb⟩
  obtain ⟨x0, x1, x2, x3, x4⟩ := bx2 hb
  clear hb
  obtain ⟨o, ho⟩ : ∃ o, numO (u - v) = o := ⟨_, rfl⟩
  rw [ho] at he
  obtain ⟨o1, o2⟩ := o
  have e9 : ocV (o1, o2) = .agg #[.int .i64 o1, .int .i64 o2] := rfl
  rw [e9] at he
  subst he
  go_wp2_with fail
  refine bodyPost_ret (v := ocV (o1, o2)) (by simp [results, Try.results85, go_sem, ocV, x0, x1, x2, x3, x4]) rfl ⟨by rw [ho], by (repeat' (first | (with_reducible first | exact bR _ _ | assumption | apply bS | apply bA | apply bD | apply bN | exact bL _) | (simp; done) | (simp; omega) | omega | exact bL _))⟩
 ·have hV : prmV 2 u v = numO (u * v) := rfl
  rw [hV]
  go_enter Try.func85, Try.ntmps85
  go_wp2_with fail
  refine (kN (u * v) (by omega) (by omega) _).out.mono ?_
  rintro e w9 ⟨he, hb⟩
  obtain ⟨x0, x1, x2, x3, x4⟩ := bx2 hb
  clear hb
  obtain ⟨o, ho⟩ : ∃ o, numO (u * v) = o := ⟨_, rfl⟩
  rw [ho] at he
  obtain ⟨o1, o2⟩ := o
  have e9 : ocV (o1, o2) = .agg #[.int .i64 o1, .int .i64 o2] := rfl
  rw [e9] at he
  subst he
  go_wp2_with fail
  refine bodyPost_ret (v := ocV (o1, o2)) (by simp [results, Try.results85, go_sem, ocV, x0, x1, x2, x3, x4]) rfl ⟨by rw [ho], by (repeat' (first | (with_reducible first | exact bR _ _ | assumption | apply bS | apply bA | apply bD | apply bN | exact bL _) | (simp; done) | (simp; omega) | omega | exact bL _))⟩
 ·by_cases hz : v = 0
  ·subst hz
   go_enter Try.func85, Try.ntmps85
   go_wp2_with fail
   refine bodyPost_ret (v := ocV (3, 1)) (by simp [results, Try.results85, go_sem, ocV]) rfl ⟨rfl, by (repeat' (first | (with_reducible first | exact bR _ _ | assumption | apply bS | apply bA | apply bD | apply bN | exact bL _) | (simp; done) | (simp; omega) | omega | exact bL _))⟩
  ·have hd := hd hz
   have hV : prmV 3 u v = numO (u.tdiv v) := if_neg hz
   rw [hV]
   have w4 : IntKind.i64.wrap (u.tdiv v) = u.tdiv v := IntWalk.i64_in _ (by omega)
   go_enter Try.func85, Try.ntmps85
   go_wp2_with fail
   refine (kN (u.tdiv v) (by omega) (by omega) _).out.mono ?_
   rintro e w9 ⟨he, hb⟩
   obtain ⟨x0, x1, x2, x3, x4⟩ := bx2 hb
   clear hb
   obtain ⟨o, ho⟩ : ∃ o, numO (u.tdiv v) = o := ⟨_, rfl⟩
   rw [ho] at he
   obtain ⟨o1, o2⟩ := o
   have e9 : ocV (o1, o2) = .agg #[.int .i64 o1, .int .i64 o2] := rfl
   rw [e9] at he
   subst he
   go_wp2_with fail
   refine bodyPost_ret (v := ocV (o1, o2)) (by simp [results, Try.results85, go_sem, ocV, x0, x1, x2, x3, x4]) rfl ⟨by rw [ho], by (repeat' (first | (with_reducible first | exact bR _ _ | assumption | apply bS | apply bA | apply bD | apply bN | exact bL _) | (simp; done) | (simp; omega) | omega | exact bL _))⟩
 ·have hV : prmV 4 u v = truO (decide (u = v)) := rfl
  rw [hV]
  go_enter Try.func85, Try.ntmps85
  go_wp2_with fail
  refine (kT (decide (u = v)) _).out.mono ?_
  rintro e w9 ⟨he, hb⟩
  obtain ⟨x0, x1, x2, x3, x4⟩ := bx2 hb
  clear hb
  obtain ⟨o, ho⟩ : ∃ o, truO (decide (u = v)) = o := ⟨_, rfl⟩
  rw [ho] at he
  obtain ⟨o1, o2⟩ := o
  have e9 : ocV (o1, o2) = .agg #[.int .i64 o1, .int .i64 o2] := rfl
  rw [e9] at he
  subst he
  go_wp2_with fail
  refine bodyPost_ret (v := ocV (o1, o2)) (by simp [results, Try.results85, go_sem, ocV, x0, x1, x2, x3, x4]) rfl ⟨by rw [ho], by (repeat' (first | (with_reducible first | exact bR _ _ | assumption | apply bS | apply bA | apply bD | apply bN | exact bL _) | (simp; done) | (simp; omega) | omega | exact bL _))⟩
 ·have hV : prmV 5 u v = truO (decide (u < v)) := rfl
  rw [hV]
  go_enter Try.func85, Try.ntmps85
  go_wp2_with fail
  refine (kT (decide (u < v)) _).out.mono ?_
  rintro e w9 ⟨he, hb⟩
  obtain ⟨x0, x1, x2, x3, x4⟩ := bx2 hb
  clear hb
  obtain ⟨o, ho⟩ : ∃ o, truO (decide (u < v)) = o := ⟨_, rfl⟩
  rw [ho] at he
  obtain ⟨o1, o2⟩ := o
  have e9 : ocV (o1, o2) = .agg #[.int .i64 o1, .int .i64 o2] := rfl
  rw [e9] at he
  subst he
  go_wp2_with fail
  refine bodyPost_ret (v := ocV (o1, o2)) (by simp [results, Try.results85, go_sem, ocV, x0, x1, x2, x3, x4]) rfl ⟨by rw [ho], by (repeat' (first | (with_reducible first | exact bR _ _ | assumption | apply bS | apply bA | apply bD | apply bN | exact bL _) | (simp; done) | (simp; omega) | omega | exact bL _))⟩
end Go.Proofs.Ytnjalpcmjkahkaa
