/- UnifySelf holds for every type and number. No condition but that the listed package variables hold what the program's text lays. -/
import Derived.Test.YtfkdcconmecaoaaDoorCards
import Derived.Test.YtfkdcconmecaoaaDoorTie
import Derived.Test.YtfkdcconmecaoaaDoorOpn
import Derived.Test.YtfkdcconmecaoaaDoorCrd
import Derived.WalkKit
import Derived.ProofKit
import Derived.Deep.DeepHandedRow
import Derived.Test.YtfkdcconmecaoaaDoorErs
import Derived.MakeChecks
import Derived.Test.YtfkdcconmecaoaaDoorUfQ
import Derived.Test.YtfkdcconmecaoaaDoorUfC
import Derived.Test.YtfkdcconmecaoaaDoorMmA
import Derived.Test.YtfkdcconmecaoaaDoorAid
import Derived.Test.YtfkdcconmecaoaaDoorTyI
import Derived.Test.YtfkdcconmecaoaaDoorSbH
import Derived.Deep.RegionHeld3
import Derived.BigQuiet
namespace Go.Proofs.YtfkdcconmecaoaaDoor.unifySelf
open Go.ChangeShapes Go.WideShapes Go.ChangeAt Go.RowKit
open Go.ChangeMaps (open_string shut_string)
set_option linter.unusedVariables false
set_option linter.unusedSimpArgs false

theorem tabs {W : World} (h : laidMetH Tryd.prog Rows.unifySelfRow.laid W) : Hid (∃ a0 a1 a2, SenB W.heap.size a0 a1 a2 W) := by
  rw [Go.MakeChecks.laidMetH_plain _ _ _ (by kernel_rfl)] at h
  exact Lib.hid (sen_of_laid h)
/-- no node before m is the variable. -/
def NoneV (ts : List Ty) (x : Int) (m : Nat) : Prop := ∀ j, j < m → ¬ ((ts.getD j ty0).k = 2 ∧ (ts.getD j ty0).v = x)
theorem noneV_mem {ts : List Ty} {x : Int} (h : NoneV ts x ts.length) : vrT x ∉ ts := by
  intro hm
  obtain ⟨j, hj, e⟩ := List.mem_iff_getElem.1 hm
  refine h j hj ?_
  rw [List.getD_eq_getElem?_getD, List.getElem?_eq_getElem hj, e]
  exact ⟨rfl, rfl⟩
/-- what a unification with one bind leaves. -/
def SelfL (q : Bool) (v : Int) (ns : List Ty) (w0 : World) (s : Value) (W : World) : Prop := (q = true → ∃ G k a n c, s = .slice (some ⟨G, 0, none⟩) 1 k ∧ OneAt W G v a n c ns) ∧ Below w0.heap.size w0 W
theorem SelfL.below {q : Bool} {v : Int} {ns : List Ty} {w0 : World} {s : Value} {W W' : World} (h : SelfL q v ns w0 s W) (hb : Below W.heap.size W W') : SelfL q v ns w0 s W' :=
  ⟨fun hq => by obtain ⟨G, k, a, n, c, e, ho⟩ := h.1 hq; exact ⟨G, k, a, n, c, e, ho.below hb⟩, belT h.2 hb⟩
theorem bx_go {g : Nat} {v : Value} {W3 W W' : World} (hg : g < W3.heap.size) (H : W.cell? ⟨g, 0, none⟩ = some v ∧ Below W3.heap.size W3 W) (hb : Below W.heap.size W W') : W'.cell? ⟨g, 0, none⟩ = some v ∧ Below W3.heap.size W3 W' :=
  ⟨carry hb (by have := H.2.size; omega) H.1, belT H.2 hb⟩
theorem s3_go {g g1 g2 : Nat} {v v1 v2 : Value} {W3 W W' : World} (hg : g < W3.heap.size ∧ g1 < W3.heap.size ∧ g2 < W3.heap.size) (H : W.cell? ⟨g, 0, none⟩ = some v ∧ W.cell? ⟨g1, 2, none⟩ = some v1 ∧ W.cell? ⟨g2, 2, none⟩ = some v2 ∧ Below W3.heap.size W3 W) (hb : Below W.heap.size W W') : W'.cell? ⟨g, 0, none⟩ = some v ∧ W'.cell? ⟨g1, 2, none⟩ = some v1 ∧ W'.cell? ⟨g2, 2, none⟩ = some v2 ∧ Below W3.heap.size W3 W' := by
  obtain ⟨h0, h1, h2, h3⟩ := H
  have := h3.size
  exact ⟨carry hb (by omega) h0, carry hb (by omega) h1, carry hb (by omega) h2, belT h3 hb⟩
set_option maxRecDepth 100000 in
set_option maxHeartbeats 8000000 in
theorem walk {H : Type} {enc : TypeId × Value → H} (p0 : Option Addr) (n0 c0 : Nat) (k : Int) (w : World)
    (f0 : ∃ fuel y, DataW.trod enc Tryd.prog w 0 (fun _ => true) true fuel 22 [.slice p0 n0 c0] = some y ∧ ∀ x ∈ DataW.weights Tryd.prog 22 y.1, x ≤ reachBytes)
    (hk : -9223372036854775808 ≤ k ∧ k ≤ 9223372036854775807) (hS : Hid (∃ a0 a1 a2, SenB w.heap.size a0 a1 a2 w)) :
    Calls Tryd.prog 5 #[.agg #[.slice p0 n0 c0], .int .i64 k] w fun e w' => e = .returned (.bool true) ∧ Below w.heap.size w w' := by
  obtain ⟨_, _, t, t'⟩ := f0
  obtain ⟨hl0, ts, hA⟩ := ty_open t t'
  clear t t'
  obtain ⟨a0, a1, a2, hE⟩ := hS.out
  have hE := Lib.hid hE
  have hA := Lib.hid hA
  obtain ⟨x, hx⟩ : ∃ x, k % 1024 = x := ⟨_, rfl⟩
  have hand : bits .and .i64 k 1023 = x := by rw [and1023, hx]
  have hxb : 0 ≤ x ∧ x < 1024 := by omega
  clear hx
  obtain ⟨q, hq⟩ : ∃ q, belU ts 40 = q := ⟨_, rfl⟩
  have hq := Lib.hid hq
  go_enter Tryd.func5, Tryd.ntmps5
  go_wp2_with fail
  refine (awake10_any a0 a1 a2 _ (Lib.hid (hE.out.up (show Below w.heap.size w _ from by (repeat' (first | with_reducible exact Below.refl _ _ | with_reducible assumption | with_reducible apply Below.setCell | with_reducible apply Below.alloc | with_reducible apply Below.drew | with_reducible apply below_drewN | with_reducible exact Nat.le_refl _ | (simp; done) | (simp; omega) | omega | exact Nat.le_refl _)))))).mono ?_
  rintro e w1 ⟨rfl, hb1⟩
  have hX := Lib.hid (show BoxAt w1 w.heap.size (.slice p0 n0 c0) from BoxAt.below (by exact box_lit _ _ _ _ rfl) hb1)
  have hA := Lib.hid (TyArg.below (by exact TyArg.alloc _ hA.out) hb1)
  have hB := Lib.hid (belT (show Below w.heap.size w _ from by (repeat' (first | with_reducible exact Below.refl _ _ | with_reducible assumption | with_reducible apply Below.setCell | with_reducible apply Below.alloc | with_reducible apply Below.drew | with_reducible apply below_drewN | with_reducible exact Nat.le_refl _ | (simp; done) | (simp; omega) | omega | exact Nat.le_refl _))) hb1)
  clear hb1
  obtain ⟨x0, x1⟩ := hX.out
  go_wp2_with fail
  clear x0 x1
  refine (unify_go a0 a1 a2 _ _ _ _ _ _ ts ts 40 (by omega) _ hA hA (by omega) (by omega) (Lib.hid (hE.out.up hB.out)) _ (Lib.hid (self_res hq.out))).mono ?_
  intro e w2 hU
  obtain ⟨b5, c5, rfl, hb⟩ := self_go hU
  generalize hE6 : errI q = e6
  have hE6 := Lib.hid hE6
  have hX := Lib.hid (hX.out.below hb)
  have hA := Lib.hid (hA.out.below hb)
  have hB := Lib.hid (belT hB.out hb)
  clear hb hU
  obtain ⟨x0, x1⟩ := hX.out
  go_wp2_with fail
  clear x0 x1
  obtain rfl : n0 = ts.length := hA.out.1
  go_loopw [8] (fun i wr => ∃ m : Nat, m ≤ ts.length ∧ i = .int .i64 m ∧ wr = w2 ∧ Hid (NoneV ts (1000 + x) m)) (fun i _ => ts.length - (intOf i).toNat)
  case atStart => exact ⟨0, by omega, rfl, rfl, Lib.hid fun j hj => absurd hj (by omega)⟩
  case round =>
    obtain ⟨m, hm, rfl, rfl, hN⟩ := hrel
    obtain ⟨x0, x1⟩ := hX.out
    by_cases hlt : m < ts.length
    · rcases hA.out.2 with h | ⟨b, off, rfl, hsl, hbs⟩
      · rw [h] at hlt; simp at hlt
      have hU := hsl m hlt
      have hsuc := Lib.hid fun (h : ¬ ((ts.getD m ty0).k = 2 ∧ (ts.getD m ty0).v = 1000 + x)) => (show NoneV ts (1000 + x) (m + 1) from fun j hj => by
        by_cases e : j = m
        · subst e; exact h
        · exact hN.out j (by omega))
      generalize ts.getD m ty0 = t at hU hsuc
      clear hsl hN
      obtain ⟨e0, e1, e2, e3, e4, e5, e6', e7, e8⟩ := hU
      have hmx : (m : Int) < (ts.length : Int) := by omega
      have hm0 : (0 : Int) ≤ (m : Int) := by omega
      cases hk2 : (t.k == 2)
      · go_wp2_with fail
        go_roundw
        case rel => exact ⟨m + 1, by omega, by go_num, by first | rfl | trivial, Lib.hid (hsuc.out fun h => by simp [h.1] at hk2)⟩
        case measure => simp [intOf]; omega
      · cases hv : (t.v == 1000 + x)
        · go_wp2_with fail
          go_roundw
          case rel => exact ⟨m + 1, by omega, by go_num, by first | rfl | trivial, Lib.hid (hsuc.out fun h => by simp [h.2] at hv)⟩
          case measure => simp [intOf]; omega
        · go_wp2_with fail
          go_ret
          exact ⟨rfl, hB.out⟩
    · obtain rfl : m = ts.length := by omega
      have hnm := Lib.hid (noneV_mem hN.out)
      have kL := Lib.hid (left_res (q := q) (by omega : 0 ≤ 1000 + x ∧ 1000 + x < 4096) hnm.out hq.out)
      have kR := Lib.hid (right_res (q := q) (by omega : 0 ≤ 1000 + x ∧ 1000 + x < 4096) hnm.out hq.out)
      clear hN
      obtain ⟨v', U, hr, hfl⟩ := right_fl (1000 + x) (treeOf ts)
      rw [hr] at kR
      have hfl := Lib.hid hfl
      clear hr
      go_upto_region 10 with fail
      go_cut [9, 10] (fun s9 s10 W => s10 = .int .i64 e6 ∧ SelfL q (1000 + x) (fl 0 (treeOf ts)) wr s9 W)
      case first =>
        have hg := Lib.hid hX.out.1
        have hst := Lib.hid (show wr.cell? ⟨w.heap.size, 0, none⟩ = some (.slice p0 ts.length c0) ∧ Below wr.heap.size wr wr from ⟨hX.out.2, Below.refl _ _⟩)
        have kU := Lib.hid fun (W : World) (hb : Below wr.heap.size wr W) (g8 : Nat) (hv8 : Hid (TyArg W (some ⟨g8, 0, none⟩) 1 [vrT (1000 + x)])) => unify_go a0 a1 a2 (some ⟨g8, 0, none⟩) p0 1 1 ts.length c0 [vrT (1000 + x)] ts 40 (by omega) W hv8 (Lib.hid (hA.out.below hb)) (by omega) (by omega) (Lib.hid (hE.out.up (belT hB.out hb))) _ (Lib.hid kL.out)
        clear x0 x1 hX hA hB hE
        go_region_held3 (fun W => W.cell? ⟨w.heap.size, 0, none⟩ = some (.slice p0 ts.length c0) ∧ Below wr.heap.size wr W)
          (repeat (first | with_reducible exact hS9.out | with_reducible exact hS8.out | with_reducible exact hst.out | with_reducible refine bx_go hg.out ?_ (below_alc _ _) | with_reducible refine bx_go hg.out ?_ ((Below.refl _ _).drew)))
          ((first
            | (go_at_call 16; refine (v10_any (1000 + x) _).mono ?_; rintro e w8 ⟨g8, hg8, rfl, hv8, hb8⟩; have hv8 := Lib.hid hv8; have hS8 := Lib.hid (bx_go hg.out (by assumption) hb8))
            | (go_at_call 10; refine (kU.out _ (by repeat (first | with_reducible exact hS8.out.2 | with_reducible refine Below.drew ?_ | with_reducible refine belA _ ?_)) _ (Lib.hid (by repeat (first | with_reducible exact hv8.out | with_reducible refine TyArg.below ?_ ((Below.refl _ _).drew) | with_reducible refine TyArg.alloc _ ?_)))).mono ?_; intro e w9 hU9; obtain ⟨s9, rfl, hs9, hb9⟩ := one_go hU9; rw [hE6.out]; have hS9 := Lib.hid (bx_go hg.out (by assumption) hb9))))
        all_goals (go_wp2_with fail; go_meet)
        all_goals exact ⟨rfl, hs9, hS9.out.2⟩
      case rest =>
        obtain ⟨rfl, hP⟩ := hcut
        rename World => w3
        have hP := Lib.hid hP
        have hX := Lib.hid (hX.out.below hP.out.2)
        have hA := Lib.hid (hA.out.below hP.out.2)
        have hB := Lib.hid (belT hB.out hP.out.2)
        clear x0 x1
        go_upto_region 11 with fail
        go_cut [11, 12] (fun s9 s10 W => s10 = .int .i64 e6 ∧ SelfL q v' (fl 0 U) w3 s9 W)
        case first =>
          have hg := Lib.hid hX.out.1
          have hst := Lib.hid (show w3.cell? ⟨w.heap.size, 0, none⟩ = some (.slice p0 ts.length c0) ∧ Below w3.heap.size w3 w3 from ⟨hX.out.2, Below.refl _ _⟩)
          have kU := Lib.hid fun (W : World) (hb : Below w3.heap.size w3 W) (g8 : Nat) (hv8 : Hid (TyArg W (some ⟨g8, 0, none⟩) 1 [vrT (1000 + x)])) => unify_go a0 a1 a2 p0 (some ⟨g8, 0, none⟩) ts.length c0 1 1 ts [vrT (1000 + x)] 40 (by omega) W (Lib.hid (hA.out.below hb)) hv8 (by omega) (by omega) (Lib.hid (hE.out.up (belT hB.out hb))) _ (Lib.hid kR.out)
          clear hX hA hB hE
          go_region_held3 (fun W => W.cell? ⟨w.heap.size, 0, none⟩ = some (.slice p0 ts.length c0) ∧ Below w3.heap.size w3 W)
            (repeat (first | with_reducible exact hS9.out | with_reducible exact hS8.out | with_reducible exact hst.out | with_reducible refine bx_go hg.out ?_ (below_alc _ _) | with_reducible refine bx_go hg.out ?_ ((Below.refl _ _).drew)))
            ((first
              | (go_at_call 16; refine (v10_any (1000 + x) _).mono ?_; rintro e w8 ⟨g8, hg8, rfl, hv8, hb8⟩; have hv8 := Lib.hid hv8; have hS8 := Lib.hid (bx_go hg.out (by assumption) hb8))
              | (go_at_call 10; refine (kU.out _ (by repeat (first | with_reducible exact hS8.out.2 | with_reducible refine Below.drew ?_ | with_reducible refine belA _ ?_)) _ (Lib.hid (by repeat (first | with_reducible exact hv8.out | with_reducible refine TyArg.below ?_ ((Below.refl _ _).drew) | with_reducible refine TyArg.alloc _ ?_)))).mono ?_; intro e w9 hU9; obtain ⟨s9, rfl, hs9, hb9⟩ := one_go hU9; rw [hE6.out]; have hS9 := Lib.hid (bx_go hg.out (by assumption) hb9))))
          all_goals (go_wp2_with fail; go_meet)
          all_goals exact ⟨rfl, hs9, hS9.out.2⟩
        case rest =>
          obtain ⟨rfl, hQ⟩ := hcut
          rename World => w4
          have hQ := Lib.hid hQ
          have hP := Lib.hid (hP.out.below hQ.out.2)
          have hX := Lib.hid (hX.out.below hQ.out.2)
          have hA := Lib.hid (hA.out.below hQ.out.2)
          have hB := Lib.hid (belT hB.out hQ.out.2)
          cases q
          · obtain rfl : (1000 : Int) = e6 := hE6.out
            clear hP hQ kL kR hA
            obtain ⟨x0, x1⟩ := hX.out
            go_wp2_with (first | (go_at_call 11; refine (num_any _ _ (by omega) (by omega)).mono ?_; rintro e w' ⟨rfl, rfl⟩))
            go_ret
            exact ⟨rfl, hB.out⟩
          · obtain rfl : (0 : Int) = e6 := hE6.out
            obtain ⟨G, K, a, n, c, rfl, ho⟩ := hP.out.1 rfl
            obtain ⟨G', K', a', n', c', rfl, ho'⟩ := hQ.out.1 rfl
            have hv : tyV ts = true := by have h := hq.out; unfold belU at h; simp only [Bool.and_eq_true] at h; exact h.1
            have hts : fl 0 (treeOf ts) = ts := (tyV_of hv).2.1.symm
            rw [hts] at ho hfl
            clear hP hQ kL kR hts hv
            obtain ⟨o0, o1, o2, o3, o4⟩ := ho
            obtain ⟨u0, u1, u2, u3, u4⟩ := ho'
            obtain ⟨x0, x1⟩ := hX.out
            have hg := Lib.hid (show w.heap.size < w4.heap.size ∧ G < w4.heap.size ∧ G' < w4.heap.size from ⟨x0, o0, u0⟩)
            have hst := Lib.hid (show w4.cell? ⟨w.heap.size, 0, none⟩ = some (.slice p0 ts.length c0) ∧ w4.cell? ⟨G, 2, none⟩ = some (.slice a n c) ∧ w4.cell? ⟨G', 2, none⟩ = some (.slice a' n' c') ∧ Below w4.heap.size w4 w4 from ⟨x1, o2, u2, Below.refl _ _⟩)
            have k1 := Lib.hid fun (W : World) (hb : Below w4.heap.size w4 W) => sameType_any a p0 n ts.length c c0 ts ts W (Lib.hid (o3.below hb)) (Lib.hid (hA.out.below hb)) (by omega)
            have k2 := Lib.hid fun (W : World) (hb : Below w4.heap.size w4 W) => sameType_any a' p0 n' ts.length c' c0 (fl 0 U) ts W (Lib.hid (u3.below hb)) (Lib.hid (hA.out.below hb)) (by omega)
            have k3 := Lib.hid fun (W : World) (hb : Below w4.heap.size w4 W) (g7 : Nat) (hv7 : Hid (TyArg W (some ⟨g7, 0, none⟩) 1 [vrT (1000 + x)])) => sameType_any a' (some ⟨g7, 0, none⟩) n' 1 c' 1 (fl 0 U) [vrT (1000 + x)] W (Lib.hid (u3.below hb)) hv7 (by omega)
            have k1 : Hid (∀ (W : World), Below w4.heap.size w4 W → Calls Tryd.prog 13 #[.agg #[.slice a n c], .agg #[.slice p0 ts.length c0]] W fun e w' => e = .returned (.bool true) ∧ Below W.heap.size W w') := Lib.hid fun W hb => Calls.mono (k1.out W hb) fun e w' h => ⟨h.1.trans (by simp), h.2⟩
            clear o3 u3 o4 u4 u1
            go_upto_region 16 with (first | (go_at_call 11; refine (num_any _ _ (by omega) (by omega)).mono ?_; rintro e w' ⟨rfl, rfl⟩))
            clear x0 x1 o0 o1 o2 u0 u2 hX hA
            rcases hfl.out with hf | hf
            · rw [hf] at k2
              have k2 : Hid (∀ (W : World), Below w4.heap.size w4 W → Calls Tryd.prog 13 #[.agg #[.slice a' n' c'], .agg #[.slice p0 ts.length c0]] W fun e w' => e = .returned (.bool true) ∧ Below W.heap.size W w') := Lib.hid fun W hb => Calls.mono (k2.out W hb) fun e w' h => ⟨h.1.trans (by simp), h.2⟩
              refine wp_region_held_drew (S := (fun W => W.cell? ⟨w.heap.size, 0, none⟩ = some (.slice p0 ts.length c0) ∧ W.cell? ⟨G, 2, none⟩ = some (.slice a n c) ∧ W.cell? ⟨G', 2, none⟩ = some (.slice a' n' c') ∧ Below w4.heap.size w4 W)) (by kernel_rfl) (s3_go hg.out hst.out ((Below.refl _ _).drew)) (fun hHeld => ?_)
              generalize w4.drew = wd at hHeld ⊢
              refine rg_take 0 (some 142) (v := ?v1) rfl rfl (by kernel_rfl) (by kernel_rfl) (by kernel_rfl) (fun _ _ _ h => h) (by rfl) ?hy1 (by assumption) ?_
              case hy1 => intro W hSW; (try dsimp only at hSW); go_simp; (try with_reducible rfl)
              try simp only [Act.put, List.setIfInBounds_toArray, List.set_cons_zero, List.set_cons_succ]
              refine rg_take 1 (some 143) (v := ?v2) rfl rfl (by kernel_rfl) (by kernel_rfl) (by kernel_rfl) (fun _ _ _ h => h) (by rfl) ?hy2 (by assumption) ?_
              case hy2 => intro W hSW; (try dsimp only at hSW); go_simp; (try with_reducible rfl)
              try simp only [Act.put, List.setIfInBounds_toArray, List.set_cons_zero, List.set_cons_succ]
              refine rg_take 2 (some 144) (v := ?v3) rfl rfl (by kernel_rfl) (by kernel_rfl) (by kernel_rfl) (fun _ _ _ h => h) (by rfl) ?hy3 (by assumption) ?_
              case hy3 => intro W hSW; (try dsimp only at hSW); go_simp; (try with_reducible rfl)
              try simp only [Act.put, List.setIfInBounds_toArray, List.set_cons_zero, List.set_cons_succ]
              refine rg_take 3 (some 145) (v := ?v4) rfl rfl (by kernel_rfl) (by kernel_rfl) (by kernel_rfl) (fun _ _ _ h => h) (by rfl) ?hy4 (by assumption) ?_
              case hy4 => intro W hSW; (try dsimp only at hSW); go_simp; (try with_reducible rfl)
              try simp only [Act.put, List.setIfInBounds_toArray, List.set_cons_zero, List.set_cons_succ]
              refine rg_take 4 (some 146) (v := ?v5) rfl rfl (by kernel_rfl) (by kernel_rfl) (by kernel_rfl) (fun _ _ _ h => h) (by rfl) ?hy5 (by assumption) ?_
              case hy5 => intro W hSW; (try dsimp only at hSW); go_simp; (try with_reducible rfl)
              try simp only [Act.put, List.setIfInBounds_toArray, List.set_cons_zero, List.set_cons_succ]
              refine rg_one 5 rfl (by kernel_rfl) (by rfl) (fun K hK => ?_)
              go_simp
              (go_at_call 13; refine Calls.mono (k1.out _ hHeld.2.2.2) ?_; rintro e w5 ⟨rfl, hb5⟩)
              refine hK.out _ _ (s3_go hg.out hHeld hb5) (fun hHeld5 => ?_)
              clear hK K hHeld
              try simp only [Act.put, List.setIfInBounds_toArray, List.set_cons_zero, List.set_cons_succ]
              refine rg_take 6 (some 148) (v := ?v6) rfl rfl (by kernel_rfl) (by kernel_rfl) (by kernel_rfl) (fun _ _ _ h => h) (by rfl) ?hy6 (by assumption) ?_
              case hy6 => intro W hSW; (try dsimp only at hSW); go_simp; (try with_reducible rfl)
              try simp only [Act.put, List.setIfInBounds_toArray, List.set_cons_zero, List.set_cons_succ]
              refine rg_take 7 (some 149) (v := ?v7) rfl rfl (by kernel_rfl) (by kernel_rfl) (by kernel_rfl) (fun _ _ _ h => h) (by rfl) ?hy7 (by assumption) ?_
              case hy7 => intro W hSW; (try dsimp only at hSW); go_simp; (try with_reducible rfl)
              try simp only [Act.put, List.setIfInBounds_toArray, List.set_cons_zero, List.set_cons_succ]
              refine rg_take 8 (some 150) (v := ?v8) rfl rfl (by kernel_rfl) (by kernel_rfl) (by kernel_rfl) (fun _ _ _ h => h) (by rfl) ?hy8 (by assumption) ?_
              case hy8 => intro W hSW; (try dsimp only at hSW); go_simp; (try with_reducible rfl)
              try simp only [Act.put, List.setIfInBounds_toArray, List.set_cons_zero, List.set_cons_succ]
              refine rg_take 9 (some 151) (v := ?v9) rfl rfl (by kernel_rfl) (by kernel_rfl) (by kernel_rfl) (fun _ _ _ h => h) (by rfl) ?hy9 (by assumption) ?_
              case hy9 => intro W hSW; (try dsimp only at hSW); go_simp; (try with_reducible rfl)
              try simp only [Act.put, List.setIfInBounds_toArray, List.set_cons_zero, List.set_cons_succ]
              refine rg_take 10 (some 152) (v := ?v10) rfl rfl (by kernel_rfl) (by kernel_rfl) (by kernel_rfl) (fun _ _ _ h => h) (by rfl) ?hy10 (by assumption) ?_
              case hy10 => intro W hSW; (try dsimp only at hSW); go_simp; (try with_reducible rfl)
              try simp only [Act.put, List.setIfInBounds_toArray, List.set_cons_zero, List.set_cons_succ]
              refine rg_take 11 (some 153) (v := ?v11) rfl rfl (by kernel_rfl) (by kernel_rfl) (by kernel_rfl) (fun _ _ _ h => h) (by rfl) ?hy11 (by assumption) ?_
              case hy11 => intro W hSW; (try dsimp only at hSW); go_simp; (try with_reducible rfl)
              try simp only [Act.put, List.setIfInBounds_toArray, List.set_cons_zero, List.set_cons_succ]
              refine rg_one 12 rfl (by kernel_rfl) (by rfl) (fun K hK => ?_)
              go_simp
              (go_at_call 13; refine Calls.mono (k2.out _ hHeld5.2.2.2) ?_; rintro e w12 ⟨rfl, hb12⟩)
              refine hK.out _ _ (s3_go hg.out hHeld5 hb12) (fun hHeld12 => ?_)
              clear hK K hHeld5
              try simp only [Act.put, List.setIfInBounds_toArray, List.set_cons_zero, List.set_cons_succ]
              refine rg_take 13 (some 155) (v := ?v12) rfl rfl (by kernel_rfl) (by kernel_rfl) (by kernel_rfl) (fun _ _ _ h => h) (by rfl) ?hy12 (by assumption) ?_
              case hy12 => intro W hSW; (try dsimp only at hSW); go_simp; (try with_reducible rfl)
              try simp only [Act.put, List.setIfInBounds_toArray, List.set_cons_zero, List.set_cons_succ]
              refine rg_skip 14 (some 156) rfl rfl (by kernel_rfl) (by kernel_rfl) (by kernel_rfl) (fun _ _ _ h => h) (by rfl) (by assumption) ?_
              try simp only [Act.put, List.setIfInBounds_toArray, List.set_cons_zero, List.set_cons_succ]
              refine rg_skip 15 (some 157) rfl rfl (by kernel_rfl) (by kernel_rfl) (by kernel_rfl) (fun _ _ _ h => h) (by rfl) (by assumption) ?_
              try simp only [Act.put, List.setIfInBounds_toArray, List.set_cons_zero, List.set_cons_succ]
              refine rg_skip 16 (some 158) rfl rfl (by kernel_rfl) (by kernel_rfl) (by kernel_rfl) (fun _ _ _ h => h) (by rfl) (by assumption) ?_
              try simp only [Act.put, List.setIfInBounds_toArray, List.set_cons_zero, List.set_cons_succ]
              refine rg_skip 17 (some 159) rfl rfl (by kernel_rfl) (by kernel_rfl) (by kernel_rfl) (fun _ _ _ h => h) (by rfl) (by assumption) ?_
              try simp only [Act.put, List.setIfInBounds_toArray, List.set_cons_zero, List.set_cons_succ]
              refine rg_skip 18 (some 160) rfl rfl (by kernel_rfl) (by kernel_rfl) (by kernel_rfl) (fun _ _ _ h => h) (by rfl) (by assumption) ?_
              try simp only [Act.put, List.setIfInBounds_toArray, List.set_cons_zero, List.set_cons_succ]
              refine rg_skip 19 (some 161) rfl rfl (by kernel_rfl) (by kernel_rfl) (by kernel_rfl) (fun _ _ _ h => h) (by rfl) (by assumption) ?_
              try simp only [Act.put, List.setIfInBounds_toArray, List.set_cons_zero, List.set_cons_succ]
              refine rg_skip 20 (some 162) rfl rfl (by kernel_rfl) (by kernel_rfl) (by kernel_rfl) (fun _ _ _ h => h) (by rfl) (by assumption) ?_
              try simp only [Act.put, List.setIfInBounds_toArray, List.set_cons_zero, List.set_cons_succ]
              refine rg_take 21 (some 163) (v := ?v13) rfl rfl (by kernel_rfl) (by kernel_rfl) (by kernel_rfl) (fun _ _ _ h => h) (by rfl) ?hy13 (by assumption) ?_
              case hy13 => intro W hSW; (try dsimp only at hSW); go_simp; (try with_reducible rfl)
              try simp only [Act.put, List.setIfInBounds_toArray, List.set_cons_zero, List.set_cons_succ]
              refine rg_take 22 (some 164) (v := ?v14) rfl rfl (by kernel_rfl) (by kernel_rfl) (by kernel_rfl) (fun _ _ _ h => h) (by rfl) ?hy14 (by assumption) ?_
              case hy14 => intro W hSW; (try dsimp only at hSW); go_simp; (try with_reducible rfl)
              try simp only [Act.put, List.setIfInBounds_toArray, List.set_cons_zero, List.set_cons_succ]
              refine rg_take 23 (some 4) (v := ?v15) rfl rfl (by kernel_rfl) (by kernel_rfl) (by kernel_rfl) (fun _ _ _ h => h) (by rfl) ?hy15 (by assumption) ?_
              case hy15 => intro W hSW; (try dsimp only at hSW); go_simp; (try with_reducible rfl)
              try simp only [Act.put, List.setIfInBounds_toArray, List.set_cons_zero, List.set_cons_succ]
              refine wpAnyH_done (by kernel_rfl) ?_ _
              go_wp2_with fail
              go_ret
              exact ⟨rfl, belT hB.out hHeld12.2.2.2⟩
            · have hne : ¬ [vrT (1000 + x)] = ts := fun e => hnm.out (by rw [← e]; exact List.mem_singleton.2 rfl)
              rw [hf] at k2 k3
              have k2 : Hid (∀ (W : World), Below w4.heap.size w4 W → Calls Tryd.prog 13 #[.agg #[.slice a' n' c'], .agg #[.slice p0 ts.length c0]] W fun e w' => e = .returned (.bool false) ∧ Below W.heap.size W w') := Lib.hid fun W hb => Calls.mono (k2.out W hb) fun e w' h => ⟨h.1.trans (by simp [hne]), h.2⟩
              have k3 : Hid (∀ (W : World), Below w4.heap.size w4 W → ∀ (g7 : Nat), Hid (TyArg W (some ⟨g7, 0, none⟩) 1 [vrT (1000 + x)]) → Calls Tryd.prog 13 #[.agg #[.slice a' n' c'], .agg #[.slice (some ⟨g7, 0, none⟩) 1 1]] W fun e w' => e = .returned (.bool true) ∧ Below W.heap.size W w') := Lib.hid fun W hb g7 h7 => Calls.mono (k3.out W hb g7 h7) fun e w' h => ⟨h.1.trans (by simp), h.2⟩
              clear hne
              go_region_held3 (fun W => W.cell? ⟨w.heap.size, 0, none⟩ = some (.slice p0 ts.length c0) ∧ W.cell? ⟨G, 2, none⟩ = some (.slice a n c) ∧ W.cell? ⟨G', 2, none⟩ = some (.slice a' n' c') ∧ Below w4.heap.size w4 W)
                (repeat (first | with_reducible exact hS6.out | with_reducible exact hS7.out | with_reducible exact hS9.out | with_reducible exact hS8.out | with_reducible exact hst.out | with_reducible refine s3_go hg.out ?_ (below_alc _ _) | with_reducible refine s3_go hg.out ?_ ((Below.refl _ _).drew)))
                ((first
                  | (go_at_call 13; have hh := hv7; clear hh; refine Calls.mono (k3.out _ ?_ _ (Lib.hid ?_)) ?_; (focus (repeat (first | with_reducible exact hS9.out.2.2.2 | with_reducible exact hS8.out.2.2.2 | with_reducible exact hS7.out.2.2.2 | with_reducible exact Below.refl _ _ | with_reducible refine Below.drew ?_ | with_reducible refine belA _ ?_))); (focus (repeat (first | with_reducible exact hv7.out | with_reducible refine TyArg.below ?_ ((Below.refl _ _).drew) | with_reducible refine TyArg.alloc _ ?_))); rintro e w6 ⟨rfl, hb6⟩; have hS6 := Lib.hid (s3_go hg.out (by assumption) hb6))
                  | (go_at_call 13; have hh := hS8; clear hh; refine Calls.mono (k2.out _ ?_) ?_; (focus (repeat (first | with_reducible exact hS9.out.2.2.2 | with_reducible exact hS8.out.2.2.2 | with_reducible exact hS7.out.2.2.2 | with_reducible exact Below.refl _ _ | with_reducible refine Below.drew ?_ | with_reducible refine belA _ ?_))); rintro e w9 ⟨rfl, hb9⟩; have hS9 := Lib.hid (s3_go hg.out (by assumption) hb9))
                  | (go_at_call 16; refine (v10_any (1000 + x) _).mono ?_; rintro e w7 ⟨g7, hg7, rfl, hv7, hb7⟩; have hv7 := Lib.hid hv7; have hS7 := Lib.hid (s3_go hg.out (by assumption) hb7))
                  | (go_at_call 13; refine Calls.mono (k1.out _ ?_) ?_; (focus (repeat (first | with_reducible exact hS9.out.2.2.2 | with_reducible exact hS8.out.2.2.2 | with_reducible exact hS7.out.2.2.2 | with_reducible exact Below.refl _ _ | with_reducible refine Below.drew ?_ | with_reducible refine belA _ ?_))); rintro e w8 ⟨rfl, hb8⟩; have hS8 := Lib.hid (s3_go hg.out (by assumption) hb8))))
              all_goals go_wp2_with fail
              all_goals (go_ret; exact ⟨rfl, belT hB.out (by first | exact hS6.out.2.2.2 | exact hS9.out.2.2.2 | exact hS8.out.2.2.2)⟩)
theorem own : ownKnob Tryd.prog.godebug = none := by kernel_rfl
theorem laidOut : laidOutB Tryd.prog = true := by kernel_rfl
set_option maxRecDepth 100000 in
theorem contract (H : Type) (enc : TypeId × Value → H) (W : World) (base : Nat) (args : Array Value) (ds gs : List (DataW H)) (before : List MemPlace)
    (hval0 : ∀ (j : Nat) t v, Tryd.f5.params[j]? = some t → args[j]? = some v → Value.okWide Tryd.prog W .any base t v)
    (hW : DataW.Whole enc Tryd.prog Tryd.f5.params.toList Rows.unifySelfSpec.vars false W args.toList ds gs before)
    (hsz0 : (DataW.weightsEach Tryd.prog (Tryd.f5.params.toList ++ Rows.unifySelfSpec.plain.varTypes Tryd.prog) (ds ++ gs)).all (· ≤ reachBytes) = true)
    (hL : laidMetH Tryd.prog Rows.unifySelfRow.laid W)
    : Calls Tryd.prog 5 args W fun e W' => ∃ v, e = .returned v ∧ Rows.unifySelfSpec.post enc Tryd.prog Tryd.f5 false true false false W args v W' := by
  have hval : ∀ (j : Nat) t v, Tryd.f5.params[j]? = some t → args[j]? = some v → Value.okWide Tryd.prog W .any base t v := hval0
  have hsz : (DataW.weightsEach Tryd.prog (Tryd.f5.params.toList ++ Rows.unifySelfSpec.plain.varTypes Tryd.prog) (ds ++ gs)).all (· ≤ reachBytes) = true := hsz0
  have hW' := hW
  obtain ⟨p, q, hA0, hV, rfl, hfz, hnd⟩ := hW
  have hA : DataW.TrodAll enc Tryd.prog W 0 (fun _ => true) true Tryd.f5.params.toList args.toList ds p := hA0
  rw [Tryd.params5] at hA hval hsz
  obtain ⟨v0, vs0, d0, ds0, p0, q0, hargs, rfl, rfl, h0, r0⟩ := trodAll_cons hA
  obtain ⟨v1, vs1, d1, ds1, p1, q1, rfl, rfl, rfl, h1, r1⟩ := trodAll_cons r0
  obtain ⟨rfl, rfl, rfl⟩ := trodAll_nil r1
  obtain rfl : args = #[v0, v1] := by cases args; simp_all
  obtain ⟨rfl, rfl⟩ := trodVars_none hV
  have k0 := h0
  have lt0 : ∀ x ∈ p0, x.block < W.heap.size := by obtain ⟨m, hm⟩ := k0; exact DataW.trod_lt m _ _ _ hm
  obtain ⟨cs0_0, rfl, fit0_0⟩ := open_struct Tryd.underlying24 (f := 6) (by kernel_rfl : flat Tryd.prog 6 24 = some [.sl 22]) (hval 0 24 v0 rfl rfl) h0 (sized_of hsz (j := 0) (t := 24) rfl rfl)
  obtain ⟨_, cs0_1, rfl, ⟨a0_0, n0_0, c0_0, fu0_0, y0_0, rfl, f0_0, g0_0⟩, fit0_1⟩ := fit_i fit0_0
  obtain rfl := fit_nil fit0_1
  have k1 := h1
  have lt1 : ∀ x ∈ p1, x.block < W.heap.size := by obtain ⟨m, hm⟩ := k1; exact DataW.trod_lt m _ _ _ hm
  obtain ⟨a1, rfl, rfl, rfl, m1⟩ := open_int Tryd.underlying3 (hval 1 3 v1 rfl rfl) h1
  clear hA0 hval0
  refine (walk a0_0 n0_0 c0_0 a1 W ⟨_, _, f0_0, g0_0⟩ (bd_i64 m1) (tabs hL)).mono fun e W' ⟨he, bel⟩ => ?_
  subst he
  exact ⟨_, rfl, _, _, _, [], _, [], hW', trodAll_mk1 (shut_bool Tryd.underlying4 _), (trodAll_cons_mk (Below.trod laidOut (by kernel_rfl) (of_decide_eq_true (by kernel_rfl)) k0 bel lt0) (trodAll_cons_mk (Below.trod laidOut (by kernel_rfl) (of_decide_eq_true (by kernel_rfl)) k1 bel lt1) trodAll_mk0)), rfl, bel.frame _, fun h => by cases h⟩
noncomputable def laidWorld (os : Os) : World := { World.holding Tryd.prog os ⟨#[], #[], []⟩ with heap := layErrs Tryd.prog 211 234 Rows.unifySelfRow.laid (World.holding Tryd.prog os ⟨#[], #[], []⟩).heap }
theorem laid_met (os : Os) : laidMet Tryd.prog Rows.unifySelfRow.laid ((laidWorld os).forCall (fun _ _ => 0) ⟨#[], #[.agg #[.slice none 0 0], .int .i64 0], []⟩).memory := laidMet_of_run' 8 (by kernel_rfl) (by kernel_rfl)
theorem reads (os : Os) {H : Type} (enc : TypeId × Value → H) : ∃ places, DataW.whole enc Tryd.prog ((laidWorld os).forCall (fun _ _ => 0) ⟨#[], #[.agg #[.slice none 0 0], .int .i64 0], []⟩).memory Tryd.f5.params.toList Rows.unifySelfSpec.vars false #[(.agg #[.slice none 0 0] : Value), (.int .i64 0 : Value)].toList 8 = some ([.agg [.nil], .lit (.int .i64 0)], [], places) := ⟨[], by kernel_rfl⟩
set_option maxRecDepth 100000 in
theorem lifted (os : Os) (started : os.Started) (H : Type) (enc : TypeId × Value → H) (F : Stop.Interp) :
    ReturnsInHanded {} Tryd.checked os 5 .any ((OpenSpec.ofChange Rows.unifySelfSpec).preRow enc Tryd.prog Tryd.f5 Rows.unifySelfRow.domain false Rows.unifySelfRow.laid) (((OpenSpec.ofChange Rows.unifySelfSpec).at F).post enc Tryd.prog Tryd.f5 false true false false) := by
  obtain ⟨places, hx⟩ := reads os enc
  refine returnsInHanded_of_row (C := Tryd.checked) (s := (OpenSpec.ofChange Rows.unifySelfSpec)) own started (by kernel_rfl) Tryd.func5
    (witness_row_at (enc := enc) (C := Tryd.checked) false (laidWorld os) #[.agg #[.slice none 0 0], .int .i64 0] rfl (by kernel_rfl) (by kernel_rfl) (by kernel_rfl)
      (OpenSpec.preRow_of_cond 8 hx (by kernel_rfl) (fun k hk => by cases hk) (by kernel_rfl) (laid_met os))) ?_
  intro W base args ds gs before hval hW _ hcnd hsz hL _ _
  exact contract H enc W base args ds gs before hval hW hsz  hL
theorem said : Rows.UnifySelfSaid :=
  OpenClaim.holds_of_cond 5 Tryd.f5 rfl rfl rfl rfl rfl rfl rfl ⟨rfl, rfl, rfl, rfl, rfl⟩ rfl rfl rfl rfl rfl (by kernel_rfl) Tryd.func5 (by kernel_rfl)
    (of_decide_eq_true (by kernel_rfl)) (by unfold Func.isWrapper; first | (rw [if_pos (by decide +kernel)]; kernel_rfl) | (rw [if_neg (by decide +kernel)]; exact ⟨rfl, rfl⟩))
    (fun os started H enc _ F => by rw [OpenClaim.pre_eq_preRow]; exact lifted os started H enc F)
theorem plain (f : FuncId) (fn : Func) (hf : Tryd.pinned.checked.prog.funcNamed "trammel/trammellaw10.UnifySelf" = some f) (hfn : Tryd.pinned.checked.prog.funcs[f]? = some fn) :
    true = Tryd.pinned.checked.prog.looks [] ∧ ∀ (j : Nat) t, fn.params[j]? = some t → Tryd.pinned.checked.prog.wantsStandIn t = false := by
  obtain rfl : f = 5 := Option.some.inj ((show Tryd.prog.funcNamed "trammel/trammellaw10.UnifySelf" = some 5 by kernel_rfl).symm.trans hf) |>.symm
  obtain rfl : fn = Tryd.f5 := (Option.some.inj (Tryd.func5.symm.trans hfn)).symm
  refine ⟨by kernel_rfl, fun j t ht => ?_⟩
  rw [Tryd.params5] at ht
  have hm := Array.mem_of_getElem? ht
  have hm2 : t ∈ ([24, 3] : List Nat) := by simpa using hm
  simp only [List.mem_cons, List.not_mem_nil, or_false] at hm2
  rcases hm2 with rfl | rfl
  · exact (show Tryd.prog.wantsStandIn 24 = false by kernel_rfl)
  · exact (show Tryd.prog.wantsStandIn 3 = false by kernel_rfl)
theorem proved : Rows.UnifySelfCardSaid :=
  Claim7.holds_tied_plain_at .later [] _ _ _ _ said (fun _ h => by cases h) (by kernel_rfl) (fun _ h => by cases h) unifySelf_row_tie rfl ⟨rfl, rfl⟩ (by kernel_rfl) rfl plain (by kernel_rfl)
end Go.Proofs.YtfkdcconmecaoaaDoor.unifySelf
