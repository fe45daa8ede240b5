/- Scopes holds for every two programs. No condition but that the listed package variable holds what the program's text lays. -/
import Derived.Test.YtfajbkpeioejoaaGreatDoorScRo
import Derived.Test.YtfajbkpeioejoaaGreatDoorScG
import Derived.Test.YtfajbkpeioejoaaGreatDoorLnd
import Derived.Test.YtfajbkpeioejoaaGreatDoorNdIn
import Derived.Test.YtfajbkpeioejoaaGreatDoorAid
import Derived.Test.YtfajbkpeioejoaaGreatDoorCards
import Derived.Test.YtfajbkpeioejoaaGreatDoorTie
import Derived.Test.YtfajbkpeioejoaaGreatDoorOpn
import Derived.Test.YtfajbkpeioejoaaGreatDoorHan
import Derived.WalkKit
import Derived.ProofKit
import Derived.Deep.DeepHandedRow
namespace Go.Proofs.YtfajbkpeioejoaaGreatDoor.scopes
open Go.ChangeShapes Go.WideShapes Go.ChangeAt Go.RowKit
open Go.ChangeMaps (open_string shut_string)
set_option linter.unusedVariables false
set_option linter.unusedSimpArgs false

theorem tabs {W : World} (h : laidMetH Tryz.prog Rows.scopesRow.laid W) : Hid (errTy W) := Lib.hid (errTy_of h (.head _))
theorem nil_cap {H : Type} {P : Program} {enc : TypeId × Value → H} {w : World} {base : Nat} {spare : Nat → Bool} {held : Bool} {t e fuel : Nat} {p : Option Addr} {len cap : Nat} {x : DataW H × List MemPlace} (ht : P.underlying t = some (.slice e)) (h : DataW.trod enc P w base spare held fuel t [.slice p len cap] = some x) : p = none → cap = 0 := by
  intro hp
  subst hp
  rcases Deep.open_slice ht h with ⟨hcs, _⟩ | ⟨a, len', cap', m, fu, D, Pl, hcs, _⟩
  · simp at hcs; exact hcs.2
  · simp at hcs
theorem cell_go {W W' : World} {p : Addr} {v : Value} (hb : Below W.heap.size W W') (h : W.cell? p = some v) : W'.cell? p = some v := (hb.cell (World.block_lt_of_cell? _ _ h)).trans h
theorem six_go {W W' : World} {p1 p2 p3 p4 p5 p6 : Addr} {v1 v2 v3 v4 v5 v6 : Value} (h : W.cell? p1 = some v1 ∧ W.cell? p2 = some v2 ∧ W.cell? p3 = some v3 ∧ W.cell? p4 = some v4 ∧ W.cell? p5 = some v5 ∧ W.cell? p6 = some v6) (hb : Below W.heap.size W W') :
    W'.cell? p1 = some v1 ∧ W'.cell? p2 = some v2 ∧ W'.cell? p3 = some v3 ∧ W'.cell? p4 = some v4 ∧ W'.cell? p5 = some v5 ∧ W'.cell? p6 = some v6 :=
  ⟨cell_go hb h.1, cell_go hb h.2.1, cell_go hb h.2.2.1, cell_go hb h.2.2.2.1, cell_go hb h.2.2.2.2.1, cell_go hb h.2.2.2.2.2⟩
theorem lentN_belowB {B B' : Nat} {w w' : World} {g n c : Nat} {l : List Nd} (h : OwnN.Lent B w g n c l) (hb : Below B' w w') (hg : g < B') : OwnN.Lent B w' g n c l := by
  obtain ⟨h1, h2, h3, h4⟩ := h
  refine ⟨h1, h2, h3, h4.1, ?_⟩
  rcases h4.2 with h | ⟨g', cap, cur, e1, e2, e3, e4⟩
  · exact .inl h
  · refine .inr ⟨g', cap, cur, e1, e2, ?_, e4⟩
    injection e1 with e1 _ _; injection e1 with e1; injection e1 with e1 _ _; subst e1
    rw [hb.block g hg]; exact e3
theorem lentO_belowB {B B' : Nat} {w w' : World} {g n c : Nat} {l : List Or} (h : OwnO.Lent B w g n c l) (hb : Below B' w w') (hg : g < B') : OwnO.Lent B w' g n c l := by
  obtain ⟨h1, h2, h3, h4⟩ := h
  refine ⟨h1, h2, h3, h4.1, ?_⟩
  rcases h4.2 with h | ⟨g', cap, cur, e1, e2, e3, e4⟩
  · exact .inl h
  · refine .inr ⟨g', cap, cur, e1, e2, ?_, e4⟩
    injection e1 with e1 _ _; injection e1 with e1; injection e1 with e1 _ _; subst e1
    rw [hb.block g hg]; exact e3
theorem lentO_lt {B : Nat} {w : World} {g n c : Nat} {l : List Or} (h : OwnO.Lent B w g n c l) : g < w.heap.size := h.marks.2.2
theorem lentN_lt {B : Nat} {w : World} {g n c : Nat} {l : List Nd} (h : OwnN.Lent B w g n c l) : g < w.heap.size := h.marks.2.2
/-- what both tell: operations, nodes, the place, the number. -/
def ResU (os : List Or) (r : Except (Int × Int) (List Nd)) : List Or × List Nd × Int × Int := match r with
  | .ok ss => (os, ss, 0, 0)
  | .error e => ([], [], e.2, e.1)
theorem res_u {os : List Or} {r : Except (Int × Int) (List Nd)} {w w' : World} {e : Ending} (h : ResPost os r w e w') :
    ∃ ao co an cn, e = .returned (.tuple #[.agg #[.slice ao (ResU os r).1.length co, .slice an (ResU os r).2.1.length cn], .int .i64 (ResU os r).2.2.1, .int .i64 (ResU os r).2.2.2]) ∧ Below w.heap.size w w' ∧ OwnO w.heap.size w' (.slice ao (ResU os r).1.length co) (ResU os r).1 ∧ NSp w.heap.size w' an (ResU os r).2.1 := by
  obtain ⟨ao, no, co, an, nn, cn, at_, code, rfl, hb, h⟩ := h
  cases r with
  | ok ss =>
    obtain ⟨rfl, rfl, hO, N, rfl, rfl, h1, h2, h3, h4⟩ := h
    have hn := hO.arg.1
    subst hn
    exact ⟨ao, co, some ⟨N, 0, none⟩, cn, rfl, hb, hO, .inr ⟨N, rfl, h1, h2, h3, h4⟩⟩
  | error er =>
    obtain ⟨rfl, rfl, rfl, rfl, rfl, rfl, rfl, rfl⟩ := h
    exact ⟨none, 0, none, 0, rfl, hb, OwnO.nil _ _, .inl rfl⟩
theorem resU_ok (os : List Or) (ts : List Nd) (hOz : ∀ t ∈ os, OrSz t) : (ResU os (resV os ts)).1.length ≤ 4 ∧ (ResU os (resV os ts)).2.1.length ≤ 512 ∧ (∀ t ∈ (ResU os (resV os ts)).1, OrSz t) ∧ (∀ t ∈ (ResU os (resV os ts)).2.1, NdSz t) ∧ 0 ≤ (ResU os (resV os ts)).2.2.2 ∧ (ResU os (resV os ts)).2.2.2 ≤ 602 := by
  cases hq : resV os ts with
  | ok ss =>
    obtain ⟨h1, _, h3⟩ := shape_ok hq
    have hm : mayV os ts = true := by
      cases hh : mayV os ts with
      | true => rfl
      | false => unfold resV at hq; rw [hh] at hq; cases hq
    obtain ⟨_, m2, m3, _⟩ := mayV_tree hm
    refine ⟨m3, by show ss.length ≤ _; omega, hOz, fun u hu => ?_, Int.le_refl 0, by show (0 : Int) ≤ 602; omega⟩
    have hu : u ∈ ss := hu
    obtain ⟨i, hi, e⟩ := List.mem_iff_getElem.1 hu
    obtain ⟨m, _, h2⟩ := h3 i (by omega)
    have e2 : ss.getD i nd0 = u := by rw [List.getD_eq_getElem?_getD, List.getElem?_eq_getElem hi, Option.getD_some, e]
    rw [← e2, h2]
    have h0 : (⟨#[]⟩ : ByteArray).size ≤ 1125899906842624 := by decide
    exact ⟨h0, h0, h0, h0⟩
  | error e =>
    obtain ⟨h1, h2⟩ := shape_bad hq
    refine ⟨Nat.zero_le _, Nat.zero_le _, (fun t ht => by cases ht), (fun t ht => by cases ht), ?_, ?_⟩
    · show 0 ≤ e.1; omega
    · show e.1 ≤ 602; omega
set_option maxRecDepth 100000 in
set_option maxHeartbeats 8000000 in
theorem walk {H : Type} {enc : TypeId × Value → H} (p0 : Option Addr) (n0 c0 : Nat) (p1 : Option Addr) (n1 c1 : Nat) (q0 : Option Addr) (m0 d0 : Nat) (q1 : Option Addr) (m1 d1 : Nat) (w : World)
    (f0 : ∃ fuel y, DataW.trod enc Tryz.prog w 0 (fun _ => true) true fuel 22 [.slice p0 n0 c0] = some y ∧ ∀ x ∈ DataW.weights Tryz.prog 22 y.1, x ≤ reachBytes)
    (f1 : ∃ fuel y, DataW.trod enc Tryz.prog w 0 (fun _ => true) true fuel 23 [.slice p1 n1 c1] = some y ∧ ∀ x ∈ DataW.weights Tryz.prog 23 y.1, x ≤ reachBytes)
    (f2 : ∃ fuel y, DataW.trod enc Tryz.prog w 0 (fun _ => true) true fuel 22 [.slice q0 m0 d0] = some y ∧ ∀ x ∈ DataW.weights Tryz.prog 22 y.1, x ≤ reachBytes)
    (f3 : ∃ fuel y, DataW.trod enc Tryz.prog w 0 (fun _ => true) true fuel 23 [.slice q1 m1 d1] = some y ∧ ∀ x ∈ DataW.weights Tryz.prog 23 y.1, x ≤ reachBytes)
    (hg : Hid (errTy w)) :
    Calls Tryz.prog 3 #[.agg #[.slice p0 n0 c0, .slice p1 n1 c1], .agg #[.slice q0 m0 d0, .slice q1 m1 d1]] w fun e w' => e = .returned (.bool true) ∧ Below w.heap.size w w' := by
  obtain ⟨_, _, t0, t0'⟩ := f0
  have hc0 := nil_cap Tryz.underlying22 t0
  obtain ⟨_, hl0, os, hO, hOz⟩ := ops_open t0 t0'
  obtain ⟨_, _, t1, t1'⟩ := f1
  obtain ⟨_, hl1, ts, hN, hNz⟩ := nodes_open t1 t1'
  obtain ⟨_, _, t2, t2'⟩ := f2
  obtain ⟨_, hl2, uo, hQO, hQOz⟩ := ops_open t2 t2'
  obtain ⟨_, _, t3, t3'⟩ := f3
  obtain ⟨_, hl3, un, hQN, hQNz⟩ := nodes_open t3 t3'
  clear t0 t0' t1 t1' t2 t2' t3 t3'
  obtain rfl : n1 = ts.length := hN.1
  obtain rfl : n0 = os.length := hO.1
  obtain rfl : m1 = un.length := hQN.1
  obtain rfl : m0 = uo.length := hQO.1
  obtain ⟨z1, z2, z3, z4, z5, z6⟩ := resU_ok os ts hOz
  have hO := Lib.hid hO
  have hN := Lib.hid hN
  have hQO := Lib.hid hQO
  have hQN := Lib.hid hQN
  have hOz := Lib.hid hOz
  have hNz := Lib.hid hNz
  have hQOz := Lib.hid hQOz
  have hQNz := Lib.hid hQNz
  have z3 := Lib.hid z3
  have z4 := Lib.hid z4
  have hcH := Lib.hid hc0
  clear hc0
  have h0l := hgl hg.out
  obtain ⟨w0, hw0⟩ : ∃ W, (w.alloc (.cells #[.slice p0 os.length c0, .slice p1 ts.length c1] 25)).alloc (.cells #[.slice q0 uo.length d0, .slice q1 un.length d1] 25) = W := ⟨_, rfl⟩
  have hP : Hid (Pg w0 w.heap.size p0 os.length c0 p1 ts.length c1) := Lib.hid (by rw [← hw0]; exact (pg_lit w 25 _ rfl _ _ _ _ _ _).below (below_alc _ _))
  have hQ : Hid (Pg w0 (w.heap.size + 1) q0 uo.length d0 q1 un.length d1) := Lib.hid (by rw [← hw0]; exact pg_lit _ _ _ (by simp) _ _ _ _ _ _)
  have hB : Hid (Below w.heap.size w w0) := Lib.hid (by rw [← hw0]; exact belA _ (below_alc _ _))
  go_enter Tryz.func3, Tryz.ntmps3
  go_upto_region 1 with fail
  (try rw [hw0])
  clear hw0
  have kL := Lib.hid (lendProgram_any p0 p1 os.length c0 ts.length c1 os ts w0 (Lib.hid (hO.out.below hB.out)) (Lib.hid (hN.out.below hB.out)) hl0 hl1)
  obtain ⟨a0, a1, a2⟩ := hP.out
  go_wp2_with fail
  clear a0 a1 a2
  refine kL.out.mono ?_
  rintro e w1 ⟨gO, cO, gN, cN, rfl, hXO, hXN, hb⟩
  have hXO := Lib.hid hXO
  have hXN := Lib.hid hXN
  have hP := Lib.hid (hP.out.below hb)
  have hQ := Lib.hid (hQ.out.below hb)
  have hB := Lib.hid (belT hB.out hb)
  clear hb kL
  go_upto_region 2 with fail
  obtain ⟨w2, hw2⟩ : ∃ W, w1.alloc (.cells #[.slice (some ⟨gO, 0, none⟩) os.length cO, .slice (some ⟨gN, 0, none⟩) ts.length cN] 25) = W := ⟨_, rfl⟩
  have hX : Hid (Pg w2 w1.heap.size (some ⟨gO, 0, none⟩) os.length cO (some ⟨gN, 0, none⟩) ts.length cN) := Lib.hid (by rw [← hw2]; exact pg_lit _ _ _ rfl _ _ _ _ _ _)
  have hb : Below w1.heap.size w1 w2 := by rw [← hw2]; exact below_alc _ _
  (try rw [hw2])
  clear hw2
  have hXO := Lib.hid (hXO.out.below hb)
  have hXN := Lib.hid (hXN.out.below hb)
  have hP := Lib.hid (hP.out.below hb)
  have hQ := Lib.hid (hQ.out.below hb)
  have hB := Lib.hid (belT hB.out hb)
  clear hb
  have hX1 := hX.out.1
  have gOl := lentO_lt hXO.out
  have gNl := lentN_lt hXN.out
  have kR := Lib.hid (Resolve_any (some ⟨gO, 0, none⟩) (some ⟨gN, 0, none⟩) os.length cO ts.length cN os ts w2 (Lib.hid hXO.out.arg) hOz (by omega) (Lib.hid hXN.out.arg) hNz (by omega) (Lib.hid (hg.out.below hB.out)))
  obtain ⟨a0, a1, a2⟩ := hX.out
  go_wp2_with fail
  clear a0 a1 a2
  refine kR.out.mono ?_
  intro e w3 hpost
  obtain ⟨ao, co, an, cn, rfl, hb, hAO, hAN⟩ := res_u hpost
  clear hpost kR
  have kR := Lib.hid fun (W : World) (hb : Below w2.heap.size w2 W) => rResolve_any p0 p1 os.length c0 ts.length c1 os ts W (Lib.hid (hO.out.below (belT hB.out hb))) hcH.out hOz (by omega) (Lib.hid (hN.out.below (belT hB.out hb))) hNz (by omega)
  have hru := Lib.hid fun (W W' : World) (e : Ending) (h : ResPost os (resV os ts) W e W') => res_u h
  generalize ResU os (resV os ts) = R at hAO hAN z1 z2 z3 z4 z5 z6 hru ⊢
  obtain ⟨oA, nA, at_, code⟩ := R
  dsimp only at z1 z2 z5 z6 hAO hAN hru ⊢
  have hAO := Lib.hid hAO
  have hAN := Lib.hid hAN
  have hB2 := Lib.hid hb
  clear hb
  go_upto_region 3 with fail
  obtain ⟨w4, hw4⟩ : ∃ W, w3.alloc (.cells #[.slice ao oA.length co, .slice an nA.length cn] 25) = W := ⟨_, rfl⟩
  have hA : Hid (Pg w4 w3.heap.size ao oA.length co an nA.length cn) := Lib.hid (by rw [← hw4]; exact pg_lit _ _ _ rfl _ _ _ _ _ _)
  have hb : Below w3.heap.size w3 w4 := by rw [← hw4]; exact below_alc _ _
  (try rw [hw4])
  clear hw4
  have hAO := Lib.hid (hAO.out.below hb)
  have hAN := Lib.hid (hAN.out.below hb)
  have hB2 := Lib.hid (belT hB2.out hb)
  clear hb
  have kR := Lib.hid (kR.out w4 hB2.out)
  obtain ⟨a0, a1, a2⟩ := hP.out.below hB2.out
  go_wp2_with fail
  clear a0 a1 a2
  refine kR.out.mono ?_
  intro e w5 hpost
  obtain ⟨bo, eo, bn, en, rfl, hb, hBO, hBN⟩ := hru.out _ _ _ hpost
  clear hpost kR hru
  have hBO := Lib.hid hBO.arg
  have hBN := Lib.hid hBN.arg
  have hAO := Lib.hid (hAO.out.below hb)
  have hAN := Lib.hid (hAN.out.below hb)
  have hA := Lib.hid (hA.out.below hb)
  have hB2 := Lib.hid (belT hB2.out hb)
  clear hb
  go_upto_region 4 with fail
  obtain ⟨w6, hw6⟩ : ∃ W, w5.alloc (.cells #[.slice bo oA.length eo, .slice bn nA.length en] 25) = W := ⟨_, rfl⟩
  have hC : Hid (Pg w6 w5.heap.size bo oA.length eo bn nA.length en) := Lib.hid (by rw [← hw6]; exact pg_lit _ _ _ rfl _ _ _ _ _ _)
  have hb : Below w5.heap.size w5 w6 := by rw [← hw6]; exact below_alc _ _
  (try rw [hw6])
  clear hw6
  have hAO := Lib.hid (hAO.out.below hb)
  have hAN := Lib.hid (hAN.out.below hb)
  have hBO := Lib.hid (hBO.out.below hb)
  have hBN := Lib.hid (hBN.out.below hb)
  have hA := Lib.hid (hA.out.below hb)
  have hB2 := Lib.hid (belT hB2.out hb)
  clear hb
  have hQ6 := Lib.hid (hQ.out.below hB2.out)
  have hBw := Lib.hid (belT hB.out hB2.out)
  have hlo : oA.length ≤ 140737488351232 := by omega
  have hln : nA.length ≤ 140737488351232 := by omega
  have hlu : uo.length ≤ 140737488351232 := by omega
  have hlv : un.length ≤ 140737488351232 := by omega
  have hcd : code ≤ 9223372036854775807 := by omega
  have kS := Lib.hid fun (W : World) (hb : Below w6.heap.size w6 W) => sameProg_any ao an bo bn oA.length co nA.length cn oA.length eo nA.length en oA nA W (Lib.hid (hAO.out.arg.below hb)) (Lib.hid (hAN.out.arg.below hb)) (Lib.hid (hBO.out.below hb)) (Lib.hid (hBN.out.below hb)) hlo hln
  have k1 := Lib.hid fun (W : World) (hb : Below w6.heap.size w6 W) => sMay_any ao an oA.length co nA.length cn oA nA W (Lib.hid (hAO.out.arg.below hb)) z3 hlo (Lib.hid (hAN.out.arg.below hb)) z4 hln (Lib.hid (hg.out.below (belT hBw.out hb)))
  have k2 := Lib.hid fun (W : World) (hb : Below w6.heap.size w6 W) => rScopeMay_any bo bn oA.length eo nA.length en oA nA W (Lib.hid (hBO.out.below hb)) z3 hlo (Lib.hid (hBN.out.below hb)) z4 hln
  have k3 := Lib.hid fun (W : World) (hb : Below w6.heap.size w6 W) => sMay_any q0 q1 uo.length d0 un.length d1 uo un W (Lib.hid (hQO.out.below (belT hBw.out hb))) hQOz hlu (Lib.hid (hQN.out.below (belT hBw.out hb))) hQNz hlv (Lib.hid (hg.out.below (belT hBw.out hb)))
  have k4 := Lib.hid fun (W : World) (hb : Below w6.heap.size w6 W) => rScopeMay_any q0 q1 uo.length d0 un.length d1 uo un W (Lib.hid (hQO.out.below (belT hBw.out hb))) hQOz hlu (Lib.hid (hQN.out.below (belT hBw.out hb))) hQNz hlv
  generalize smayV oA nA = vA at k1 k2
  generalize smayV uo un = vQ at k3 k4
  refine wp_region_held_drew (S := fun W => W.cell? ⟨w3.heap.size, 0, none⟩ = some (.slice ao oA.length co) ∧ W.cell? ⟨w3.heap.size, 1, none⟩ = some (.slice an nA.length cn) ∧ W.cell? ⟨w5.heap.size, 0, none⟩ = some (.slice bo oA.length eo) ∧ W.cell? ⟨w5.heap.size, 1, none⟩ = some (.slice bn nA.length en) ∧ W.cell? ⟨w.heap.size + 1, 0, none⟩ = some (.slice q0 uo.length d0) ∧ W.cell? ⟨w.heap.size + 1, 1, none⟩ = some (.slice q1 un.length d1)) (by kernel_rfl) (six_go ⟨hA.out.2.1, hA.out.2.2, hC.out.2.1, hC.out.2.2, hQ6.out.2.1, hQ6.out.2.2⟩ ((Below.refl _ _).drew)) (fun hHeld => ?_)
  have hD : Below w6.heap.size w6 w6.drew := (Below.refl _ _).drew
  generalize w6.drew = wd at hHeld hD ⊢
  refine rg_take 0 (some 26) (v := ?v1) rfl rfl (by kernel_rfl) (by kernel_rfl) (by kernel_rfl) (fun _ _ _ h => h) (by rfl) ?hy1 (by assumption) ?_
  case hy1 => intro W hSW; (try dsimp only at hSW); go_simp; (try with_reducible rfl)
  try simp only [Act.put, List.setIfInBounds_toArray, List.set_cons_zero, List.set_cons_succ]
  refine rg_take 1 (some 27) (v := ?v2) rfl rfl (by kernel_rfl) (by kernel_rfl) (by kernel_rfl) (fun _ _ _ h => h) (by rfl) ?hy2 (by assumption) ?_
  case hy2 => intro W hSW; (try dsimp only at hSW); go_simp; (try with_reducible rfl)
  try simp only [Act.put, List.setIfInBounds_toArray, List.set_cons_zero, List.set_cons_succ]
  refine rg_one 2 rfl (by kernel_rfl) (by rfl) (fun K hK => ?_)
  go_simp
  (go_at_call 7; refine (kS.out _ hD).mono ?_; rintro e wn ⟨rfl, hb⟩)
  have hHeld := six_go hHeld hb
  have hD := belT hD hb
  refine hK.out _ _ hHeld (fun _ => ?_)
  clear hK K hb kS
  try simp only [Act.put, List.setIfInBounds_toArray, List.set_cons_zero, List.set_cons_succ]
  refine rg_take 3 (some 29) (v := ?v3) rfl rfl (by kernel_rfl) (by kernel_rfl) (by kernel_rfl) (fun _ _ _ h => h) (by rfl) ?hy3 (by assumption) ?_
  case hy3 => intro W hSW; (try dsimp only at hSW); go_simp; (try with_reducible rfl)
  try simp only [Act.put, List.setIfInBounds_toArray, List.set_cons_zero, List.set_cons_succ]
  refine rg_take 4 (some 30) (v := ?v4) rfl rfl (by kernel_rfl) (by kernel_rfl) (by kernel_rfl) (fun _ _ _ h => h) (by rfl) ?hy4 (by assumption) ?_
  case hy4 => intro W hSW; (try dsimp only at hSW); go_simp; (try with_reducible rfl)
  try simp only [Act.put, List.setIfInBounds_toArray, List.set_cons_zero, List.set_cons_succ]
  refine rg_take 5 (some 31) (v := ?v5) rfl rfl (by kernel_rfl) (by kernel_rfl) (by kernel_rfl) (fun _ _ _ h => h) (by rfl) ?hy5 (by assumption) ?_
  case hy5 => intro W hSW; (try dsimp only at hSW); go_simp; (try with_reducible rfl)
  try simp only [Act.put, List.setIfInBounds_toArray, List.set_cons_zero, List.set_cons_succ]
  refine rg_take 6 (some 32) (v := ?v6) rfl rfl (by kernel_rfl) (by kernel_rfl) (by kernel_rfl) (fun _ _ _ h => h) (by rfl) ?hy6 (by assumption) ?_
  case hy6 => intro W hSW; (try dsimp only at hSW); go_simp; (try with_reducible rfl)
  try simp only [Act.put, List.setIfInBounds_toArray, List.set_cons_zero, List.set_cons_succ]
  refine rg_take 7 (some 33) (v := ?v7) rfl rfl (by kernel_rfl) (by kernel_rfl) (by kernel_rfl) (fun _ _ _ h => h) (by rfl) ?hy7 (by assumption) ?_
  case hy7 => intro W hSW; (try dsimp only at hSW); go_simp; (try with_reducible rfl)
  try simp only [Act.put, List.setIfInBounds_toArray, List.set_cons_zero, List.set_cons_succ]
  refine rg_take 8 (some 34) (v := ?v8) rfl rfl (by kernel_rfl) (by kernel_rfl) (by kernel_rfl) (fun _ _ _ h => h) (by rfl) ?hy8 (by assumption) ?_
  case hy8 => intro W hSW; (try dsimp only at hSW); go_simp; (try with_reducible rfl)
  try simp only [Act.put, List.setIfInBounds_toArray, List.set_cons_zero, List.set_cons_succ]
  refine rg_take 9 (some 35) (v := ?v9) rfl rfl (by kernel_rfl) (by kernel_rfl) (by kernel_rfl) (fun _ _ _ h => h) (by rfl) ?hy9 (by assumption) ?_
  case hy9 => intro W hSW; (try dsimp only at hSW); go_simp; (try with_reducible rfl)
  try simp only [Act.put, List.setIfInBounds_toArray, List.set_cons_zero, List.set_cons_succ]
  refine rg_take 10 (some 36) (v := ?v10) rfl rfl (by kernel_rfl) (by kernel_rfl) (by kernel_rfl) (fun _ _ _ h => h) (by rfl) ?hy10 (by assumption) ?_
  case hy10 => intro W hSW; (try dsimp only at hSW); go_simp; (try with_reducible rfl)
  try simp only [Act.put, List.setIfInBounds_toArray, List.set_cons_zero, List.set_cons_succ]
  refine rg_take 12 (some 38) (v := ?v11) rfl rfl (by kernel_rfl) (by kernel_rfl) (by kernel_rfl) (fun _ _ _ h => h) (by rfl) ?hy11 (by assumption) ?_
  case hy11 => intro W hSW; (try dsimp only at hSW); go_simp; (try with_reducible rfl)
  try simp only [Act.put, List.setIfInBounds_toArray, List.set_cons_zero, List.set_cons_succ]
  refine rg_one 11 rfl (by kernel_rfl) (by rfl) (fun K hK => ?_)
  go_simp
  (go_at_call 8; refine (num_any code _ z5 hcd).mono ?_; rintro e wm ⟨rfl, rfl⟩)
  refine hK.out _ _ hHeld (fun _ => ?_)
  clear hK K
  try simp only [Act.put, List.setIfInBounds_toArray, List.set_cons_zero, List.set_cons_succ]
  refine rg_take 13 (some 39) (v := ?v12) rfl rfl (by kernel_rfl) (by kernel_rfl) (by kernel_rfl) (fun _ _ _ h => h) (by rfl) ?hy12 (by assumption) ?_
  case hy12 => intro W hSW; (try dsimp only at hSW); go_simp; (try with_reducible rfl)
  try simp only [Act.put, List.setIfInBounds_toArray, List.set_cons_zero, List.set_cons_succ]
  refine rg_take 14 (some 40) (v := ?v13) rfl rfl (by kernel_rfl) (by kernel_rfl) (by kernel_rfl) (fun _ _ _ h => h) (by rfl) ?hy13 (by assumption) ?_
  case hy13 => intro W hSW; (try dsimp only at hSW); go_simp; (try with_reducible rfl)
  try simp only [Act.put, List.setIfInBounds_toArray, List.set_cons_zero, List.set_cons_succ]
  refine rg_take 15 (some 41) (v := ?v14) rfl rfl (by kernel_rfl) (by kernel_rfl) (by kernel_rfl) (fun _ _ _ h => h) (by rfl) ?hy14 (by assumption) ?_
  case hy14 => intro W hSW; (try dsimp only at hSW); go_simp; (try with_reducible rfl)
  try simp only [Act.put, List.setIfInBounds_toArray, List.set_cons_zero, List.set_cons_succ]
  refine rg_take 16 (some 42) (v := ?v15) rfl rfl (by kernel_rfl) (by kernel_rfl) (by kernel_rfl) (fun _ _ _ h => h) (by rfl) ?hy15 (by assumption) ?_
  case hy15 => intro W hSW; (try dsimp only at hSW); go_simp; (try with_reducible rfl)
  try simp only [Act.put, List.setIfInBounds_toArray, List.set_cons_zero, List.set_cons_succ]
  refine rg_take 18 (some 44) (v := ?v16) rfl rfl (by kernel_rfl) (by kernel_rfl) (by kernel_rfl) (fun _ _ _ h => h) (by rfl) ?hy16 (by assumption) ?_
  case hy16 => intro W hSW; (try dsimp only at hSW); go_simp; (try with_reducible rfl)
  try simp only [Act.put, List.setIfInBounds_toArray, List.set_cons_zero, List.set_cons_succ]
  refine rg_one 17 rfl (by kernel_rfl) (by rfl) (fun K hK => ?_)
  go_simp
  (go_at_call 9; refine (k1.out _ hD).mono ?_; rintro e wn ⟨rfl, hb⟩)
  have hHeld := six_go hHeld hb
  have hD := belT hD hb
  refine hK.out _ _ hHeld (fun _ => ?_)
  clear hK K hb k1
  try simp only [Act.put, List.setIfInBounds_toArray, List.set_cons_zero, List.set_cons_succ]
  refine rg_one 19 rfl (by kernel_rfl) (by rfl) (fun K hK => ?_)
  go_simp
  (go_at_call 10; refine (k2.out _ hD).mono ?_; rintro e wn ⟨rfl, hb⟩)
  have hHeld := six_go hHeld hb
  have hD := belT hD hb
  refine hK.out _ _ hHeld (fun _ => ?_)
  clear hK K hb k2
  try simp only [Act.put, List.setIfInBounds_toArray, List.set_cons_zero, List.set_cons_succ]
  refine rg_take 20 (some 46) (v := ?v17) rfl rfl (by kernel_rfl) (by kernel_rfl) (by kernel_rfl) (fun _ _ _ h => h) (by rfl) ?hy17 (by assumption) ?_
  case hy17 => intro W hSW; (try dsimp only at hSW); go_simp; (try with_reducible rfl)
  try simp only [Act.put, List.setIfInBounds_toArray, List.set_cons_zero, List.set_cons_succ]
  refine rg_take 21 (some 47) (v := ?v18) rfl rfl (by kernel_rfl) (by kernel_rfl) (by kernel_rfl) (fun _ _ _ h => h) (by rfl) ?hy18 (by assumption) ?_
  case hy18 => intro W hSW; (try dsimp only at hSW); go_simp; (try with_reducible rfl)
  try simp only [Act.put, List.setIfInBounds_toArray, List.set_cons_zero, List.set_cons_succ]
  refine rg_take 22 (some 48) (v := ?v19) rfl rfl (by kernel_rfl) (by kernel_rfl) (by kernel_rfl) (fun _ _ _ h => h) (by rfl) ?hy19 (by assumption) ?_
  case hy19 => intro W hSW; (try dsimp only at hSW); go_simp; (try with_reducible rfl)
  try simp only [Act.put, List.setIfInBounds_toArray, List.set_cons_zero, List.set_cons_succ]
  refine rg_take 23 (some 49) (v := ?v20) rfl rfl (by kernel_rfl) (by kernel_rfl) (by kernel_rfl) (fun _ _ _ h => h) (by rfl) ?hy20 (by assumption) ?_
  case hy20 => intro W hSW; (try dsimp only at hSW); go_simp; (try with_reducible rfl)
  try simp only [Act.put, List.setIfInBounds_toArray, List.set_cons_zero, List.set_cons_succ]
  refine rg_take 25 (some 51) (v := ?v21) rfl rfl (by kernel_rfl) (by kernel_rfl) (by kernel_rfl) (fun _ _ _ h => h) (by rfl) ?hy21 (by assumption) ?_
  case hy21 => intro W hSW; (try dsimp only at hSW); go_simp; (try with_reducible rfl)
  try simp only [Act.put, List.setIfInBounds_toArray, List.set_cons_zero, List.set_cons_succ]
  refine rg_one 24 rfl (by kernel_rfl) (by rfl) (fun K hK => ?_)
  go_simp
  (go_at_call 9; refine (k3.out _ hD).mono ?_; rintro e wn ⟨rfl, hb⟩)
  have hHeld := six_go hHeld hb
  have hD := belT hD hb
  refine hK.out _ _ hHeld (fun _ => ?_)
  clear hK K hb k3
  try simp only [Act.put, List.setIfInBounds_toArray, List.set_cons_zero, List.set_cons_succ]
  refine rg_one 26 rfl (by kernel_rfl) (by rfl) (fun K hK => ?_)
  go_simp
  (go_at_call 10; refine (k4.out _ hD).mono ?_; rintro e wn ⟨rfl, hb⟩)
  have hHeld := six_go hHeld hb
  have hD := belT hD hb
  refine hK.out _ _ hHeld (fun _ => ?_)
  clear hK K hb k4
  try simp only [Act.put, List.setIfInBounds_toArray, List.set_cons_zero, List.set_cons_succ]
  refine rg_take 27 (some 53) (v := ?v22) rfl rfl (by kernel_rfl) (by kernel_rfl) (by kernel_rfl) (fun _ _ _ h => h) (by rfl) ?hy22 (by assumption) ?_
  case hy22 => intro W hSW; (try dsimp only at hSW); go_simp; (try with_reducible rfl)
  try simp only [Act.put, List.setIfInBounds_toArray, List.set_cons_zero, List.set_cons_succ]
  refine rg_take 28 (some 54) (v := ?v23) rfl rfl (by kernel_rfl) (by kernel_rfl) (by kernel_rfl) (fun _ _ _ h => h) (by rfl) ?hy23 (by assumption) ?_
  case hy23 => intro W hSW; (try dsimp only at hSW); go_simp; (try with_reducible rfl)
  try simp only [Act.put, List.setIfInBounds_toArray, List.set_cons_zero, List.set_cons_succ]
  refine wpAnyH_done (by kernel_rfl) ?_ _
  have h26 := belT hB2.out hD
  have hs2 := h26.size
  have kP := Lib.hid (spoilProg_any w2.heap.size ao co an cn oA nA wn hs2 (Lib.hid (hAO.out.below hD)) (Lib.hid (hAN.out.below hD)) (by omega) (by omega))
  have hX := Lib.hid (hX.out.below h26)
  have hP := Lib.hid (hP.out.below h26)
  have hXO := Lib.hid (hXO.out.below h26)
  have hXN := Lib.hid (hXN.out.below h26)
  have hBn := Lib.hid (belT hBw.out hD)
  have hPl : w.heap.size < w2.heap.size := by have := hB.out.size; have := hQ.out.1; omega
  have hXl : w1.heap.size < w2.heap.size := hX1
  obtain ⟨e1, e2, _, _, _, _⟩ := hHeld
  clear hA hAO hAN hBO hBN hC hQ6 hB2
  go_wp2_with fail
  clear e1 e2
  refine kP.out.mono ?_
  rintro e wS ⟨rfl, hs⟩
  have hXO := Lib.hid (lentO_belowB hXO.out hs gOl)
  have hXN := Lib.hid (lentN_belowB hXN.out hs gNl)
  have hX2 : Hid (Pg wS w1.heap.size (some ⟨gO, 0, none⟩) os.length cO (some ⟨gN, 0, none⟩) ts.length cN) := Lib.hid ⟨by have := hs.size; omega, (hs.cell (p := ⟨w1.heap.size, 0, none⟩) hXl).trans hX.out.2.1, (hs.cell (p := ⟨w1.heap.size, 1, none⟩) hXl).trans hX.out.2.2⟩
  have hP2 : Hid (Pg wS w.heap.size p0 os.length c0 p1 ts.length c1) := Lib.hid ⟨by have := hs.size; omega, (hs.cell (p := ⟨w.heap.size, 0, none⟩) hPl).trans hP.out.2.1, (hs.cell (p := ⟨w.heap.size, 1, none⟩) hPl).trans hP.out.2.2⟩
  have hBS := Lib.hid (hBn.out.trans (hs.mono (Nat.le_of_lt hPl)))
  have kK := Lib.hid (keptProgram_any gO os.length cO gN ts.length cN p0 p1 c0 c1 os ts wS hXO (Lib.hid (hO.out.below hBS.out)) hXN (Lib.hid (hN.out.below hBS.out)) (by omega) (by omega))
  clear hs hX hP kP hD hBn h26
  obtain ⟨e1, e2, e3⟩ := hX2.out
  obtain ⟨d1, d2, d3⟩ := hP2.out
  go_wp2_with fail
  clear e1 e2 e3 d1 d2 d3
  refine kK.out.mono ?_
  rintro e wT ⟨rfl, hb⟩
  have hBT := Lib.hid (belT hBS.out hb)
  clear hb kK
  go_wp2_with fail
  refine (awake6_any _ (Lib.hid (hg.out.below hBT.out))).mono ?_
  rintro e wU ⟨rfl, hb⟩
  go_wp2_with fail
  go_ret
  exact ⟨rfl, belT hBT.out hb⟩
theorem own : ownKnob Tryz.prog.godebug = none := by kernel_rfl
theorem laidOut : laidOutB Tryz.prog = true := by kernel_rfl
set_option maxRecDepth 100000 in
theorem contract (H : Type) (enc : TypeId × Value → H) (W : World) (base : Nat) (args : Array Value) (ds gs : List (DataW H)) (before : List MemPlace)
    (hval0 : ∀ (j : Nat) t v, Tryz.f3.params[j]? = some t → args[j]? = some v → Value.okWide Tryz.prog W .any base t v)
    (hW : DataW.Whole enc Tryz.prog Tryz.f3.params.toList Rows.scopesSpec.vars false W args.toList ds gs before)
    (hsz0 : (DataW.weightsEach Tryz.prog (Tryz.f3.params.toList ++ Rows.scopesSpec.plain.varTypes Tryz.prog) (ds ++ gs)).all (· ≤ reachBytes) = true)
    (hL : laidMetH Tryz.prog Rows.scopesRow.laid W)
    : Calls Tryz.prog 3 args W fun e W' => ∃ v, e = .returned v ∧ Rows.scopesSpec.post enc Tryz.prog Tryz.f3 false true false false W args v W' := by
  have hval : ∀ (j : Nat) t v, Tryz.f3.params[j]? = some t → args[j]? = some v → Value.okWide Tryz.prog W .any base t v := hval0
  have hsz : (DataW.weightsEach Tryz.prog (Tryz.f3.params.toList ++ Rows.scopesSpec.plain.varTypes Tryz.prog) (ds ++ gs)).all (· ≤ reachBytes) = true := hsz0
  have hW' := hW
  obtain ⟨p, q, hA0, hV, rfl, hfz, hnd⟩ := hW
  have hA : DataW.TrodAll enc Tryz.prog W 0 (fun _ => true) true Tryz.f3.params.toList args.toList ds p := hA0
  rw [Tryz.params3] at hA hval hsz
  obtain ⟨v0, vs0, d0, ds0, p0, q0, hargs, rfl, rfl, h0, r0⟩ := trodAll_cons hA
  obtain ⟨v1, vs1, d1, ds1, p1, q1, rfl, rfl, rfl, h1, r1⟩ := trodAll_cons r0
  obtain ⟨rfl, rfl, rfl⟩ := trodAll_nil r1
  obtain rfl : args = #[v0, v1] := by cases args; simp_all
  obtain ⟨rfl, rfl⟩ := trodVars_none hV
  have k0 := h0
  have lt0 : ∀ x ∈ p0, x.block < W.heap.size := by obtain ⟨m, hm⟩ := k0; exact DataW.trod_lt m _ _ _ hm
  obtain ⟨cs0_0, rfl, fit0_0⟩ := open_struct Tryz.underlying25 (f := 6) (by kernel_rfl : flat Tryz.prog 6 25 = some [.sl 22, .sl 23]) (hval 0 25 v0 rfl rfl) h0 (sized_of hsz (j := 0) (t := 25) rfl rfl)
  obtain ⟨_, cs0_1, rfl, ⟨a0_0, n0_0, c0_0, fu0_0, y0_0, rfl, f0_0, g0_0⟩, fit0_1⟩ := fit_i fit0_0
  obtain ⟨_, cs0_2, rfl, ⟨a0_1, n0_1, c0_1, fu0_1, y0_1, rfl, f0_1, g0_1⟩, fit0_2⟩ := fit_i fit0_1
  obtain rfl := fit_nil fit0_2
  have k1 := h1
  have lt1 : ∀ x ∈ p1, x.block < W.heap.size := by obtain ⟨m, hm⟩ := k1; exact DataW.trod_lt m _ _ _ hm
  obtain ⟨cs1_0, rfl, fit1_0⟩ := open_struct Tryz.underlying25 (f := 6) (by kernel_rfl : flat Tryz.prog 6 25 = some [.sl 22, .sl 23]) (hval 1 25 v1 rfl rfl) h1 (sized_of hsz (j := 1) (t := 25) rfl rfl)
  obtain ⟨_, cs1_1, rfl, ⟨a1_0, n1_0, c1_0, fu1_0, y1_0, rfl, f1_0, g1_0⟩, fit1_1⟩ := fit_i fit1_0
  obtain ⟨_, cs1_2, rfl, ⟨a1_1, n1_1, c1_1, fu1_1, y1_1, rfl, f1_1, g1_1⟩, fit1_2⟩ := fit_i fit1_1
  obtain rfl := fit_nil fit1_2
  clear hA0 hval0
  refine (walk a0_0 n0_0 c0_0 a0_1 n0_1 c0_1 a1_0 n1_0 c1_0 a1_1 n1_1 c1_1 W ⟨_, _, f0_0, g0_0⟩ ⟨_, _, f0_1, g0_1⟩ ⟨_, _, f1_0, g1_0⟩ ⟨_, _, f1_1, g1_1⟩ (tabs hL)).mono fun e W' ⟨he, bel⟩ => ?_
  subst he
  exact ⟨_, rfl, _, _, _, [], _, [], hW', trodAll_mk1 (shut_bool Tryz.underlying4 _), (trodAll_cons_mk (Below.trod laidOut (by kernel_rfl) (of_decide_eq_true (by kernel_rfl)) k0 bel lt0) (trodAll_cons_mk (Below.trod laidOut (by kernel_rfl) (of_decide_eq_true (by kernel_rfl)) k1 bel lt1) trodAll_mk0)), rfl, bel.frame _, fun h => by cases h⟩
theorem laid_met (os : Os) : laidMetH Tryz.prog Rows.scopesRow.laid ((handleWorld os).forCall (fun _ _ => 0) ⟨#[], #[.agg #[.slice none 0 0, .slice none 0 0], .agg #[.slice none 0 0, .slice none 0 0]], []⟩).memory := laidMetH_of_parts (laidMet_nil _ _) (by kernel_rfl)
theorem reads (os : Os) {H : Type} (enc : TypeId × Value → H) : ∃ places, DataW.whole enc Tryz.prog ((handleWorld os).forCall (fun _ _ => 0) ⟨#[], #[.agg #[.slice none 0 0, .slice none 0 0], .agg #[.slice none 0 0, .slice none 0 0]], []⟩).memory Tryz.f3.params.toList Rows.scopesSpec.vars false #[(.agg #[.slice none 0 0, .slice none 0 0] : Value), (.agg #[.slice none 0 0, .slice none 0 0] : Value)].toList 8 = some ([.agg [.nil, .nil], .agg [.nil, .nil]], [], places) := ⟨[], by kernel_rfl⟩
set_option maxRecDepth 100000 in
theorem lifted (os : Os) (started : os.Started) (H : Type) (enc : TypeId × Value → H) (F : Stop.Interp) :
    ReturnsInHanded {} Tryz.checked os 3 .any ((OpenSpec.ofChange Rows.scopesSpec).preRow enc Tryz.prog Tryz.f3 Rows.scopesRow.domain false Rows.scopesRow.laid) (((OpenSpec.ofChange Rows.scopesSpec).at F).post enc Tryz.prog Tryz.f3 false true false false) := by
  obtain ⟨places, hx⟩ := reads os enc
  refine returnsInHanded_of_row (C := Tryz.checked) (s := (OpenSpec.ofChange Rows.scopesSpec)) own started (by kernel_rfl) Tryz.func3
    (witness_row_at (enc := enc) (C := Tryz.checked) false (handleWorld os) #[.agg #[.slice none 0 0, .slice none 0 0], .agg #[.slice none 0 0, .slice none 0 0]] rfl (by kernel_rfl) (by kernel_rfl) (by kernel_rfl)
      (OpenSpec.preRow_of_cond 8 hx (by kernel_rfl) (fun k hk => by cases hk) (by kernel_rfl) (laid_met os))) ?_
  intro W base args ds gs before hval hW _ hcnd hsz hL _ _
  exact contract H enc W base args ds gs before hval hW hsz  hL
theorem said : Rows.ScopesSaid :=
  OpenClaim.holds_of_cond 3 Tryz.f3 rfl rfl rfl rfl rfl rfl rfl ⟨rfl, rfl, rfl, rfl, rfl⟩ rfl rfl rfl rfl rfl (by kernel_rfl) Tryz.func3 (by kernel_rfl)
    (of_decide_eq_true (by kernel_rfl)) (by unfold Func.isWrapper; first | (rw [if_pos (by decide +kernel)]; kernel_rfl) | (rw [if_neg (by decide +kernel)]; exact ⟨rfl, rfl⟩))
    (fun os started H enc _ F => by rw [OpenClaim.pre_eq_preRow]; exact lifted os started H enc F)
theorem plain (f : FuncId) (fn : Func) (hf : Tryz.pinned.checked.prog.funcNamed "trammel/trammellaw6.Scopes" = some f) (hfn : Tryz.pinned.checked.prog.funcs[f]? = some fn) :
    true = Tryz.pinned.checked.prog.looks [] ∧ ∀ (j : Nat) t, fn.params[j]? = some t → Tryz.pinned.checked.prog.wantsStandIn t = false := by
  obtain rfl : f = 3 := Option.some.inj ((show Tryz.prog.funcNamed "trammel/trammellaw6.Scopes" = some 3 by kernel_rfl).symm.trans hf) |>.symm
  obtain rfl : fn = Tryz.f3 := (Option.some.inj (Tryz.func3.symm.trans hfn)).symm
  refine ⟨by kernel_rfl, fun j t ht => ?_⟩
  rw [Tryz.params3] at ht
  have hm := Array.mem_of_getElem? ht
  have hm2 : t ∈ ([25] : List Nat) := by simpa using hm
  simp only [List.mem_cons, List.not_mem_nil, or_false] at hm2
  subst hm2; exact (show Tryz.prog.wantsStandIn 25 = false by kernel_rfl)
theorem proved : Rows.ScopesCardSaid :=
  Claim7.holds_tied_plain_at .later [] _ _ _ _ said (fun _ h => by cases h) (by kernel_rfl) (fun _ h => by cases h) scopes_row_tie rfl ⟨rfl, rfl⟩ (by kernel_rfl) rfl plain (by kernel_rfl)
end Go.Proofs.YtfajbkpeioejoaaGreatDoor.scopes
