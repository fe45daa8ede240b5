/- The machine of layer 21 in memory: its object, its small functions. -/
import Derived.Test.YtnjalpcmjkahkaaZt18
import Derived.WalkKit
import Derived.ProofKit
import Derived.Lib.Hide
import Derived.RegionTactic
import Derived.BigRegion
import Derived.Deep.QuietTactic
set_option maxRecDepth 100000
set_option maxHeartbeats 8000000
namespace Go.Proofs.Ytnjalpcmjkahkaa
open Go.RowKit
set_option linter.unusedVariables false
set_option linter.unusedSimpArgs false
abbrev Gh := World × (Nat → Prop)
structure Mc where
 k : Int
 n : Int
 ended : Bool
 hv : Bool
 th : Th
 nd : Int
 en : Option Addr
 w0 : Gh
structure McC (w : World) (G : Nat) (tv fv sv : Value) (m : Mc) : Prop where
 lt : G < w.heap.size
 ty : TyAt w G 58
 fz : ∀ o, w.frozen? ⟨G, o, none⟩ = false
 c0 : w.cell? ⟨G, 0, none⟩ = some (.int .i64 m.k)
 c1 : w.cell? ⟨G, 1, none⟩ = some (.int .i64 m.n)
 c2 : w.cell? ⟨G, 2, none⟩ = some (.bool m.ended)
 c3 : w.cell? ⟨G, 3, none⟩ = some tv
 c4 : w.cell? ⟨G, 4, none⟩ = some fv
 c5 : w.cell? ⟨G, 5, none⟩ = some sv
 c6 : w.cell? ⟨G, 6, none⟩ = some (.bool m.hv)
 c7 : w.cell? ⟨G, 7, none⟩ = some (.int .i64 m.th.a)
 c8 : w.cell? ⟨G, 8, none⟩ = some (.int .i64 m.th.b)
 c9 : w.cell? ⟨G, 9, none⟩ = some (.pointer m.th.c)
 c10 : w.cell? ⟨G, 10, none⟩ = some (.pointer m.th.d)
 c11 : w.cell? ⟨G, 11, none⟩ = some (.pointer m.th.e)
 c12 : w.cell? ⟨G, 12, none⟩ = some (.int .i64 m.nd)
 c13 : w.cell? ⟨G, 13, none⟩ = some (.pointer m.en)
 bs : Bar (fun k => ¬ m.w0.2 k) m.w0.1 w
 kG : ¬ m.w0.2 G
 kl : ∀ k, m.w0.2 k → k < w.heap.size
theorem McC.bar {S : Nat → Prop} {w w' : World} {G : Nat} {tv fv sv : Value} {m : Mc} (h : McC w G tv fv sv m) (hb : Bar S w w') (hn : ¬ S G) (hS : ∀ k, S k → ¬ m.w0.2 k) : McC w' G tv fv sv m :=
 ⟨by have := hb.size; have := h.lt; omega, h.ty.bar hb hn, fun o => by rw [hb.frozen (a := ⟨G, o, none⟩) h.lt hn]; exact h.fz o, hb.cell h.c0 hn, hb.cell h.c1 hn, hb.cell h.c2 hn, hb.cell h.c3 hn, hb.cell h.c4 hn, hb.cell h.c5 hn, hb.cell h.c6 hn, hb.cell h.c7 hn, hb.cell h.c8 hn, hb.cell h.c9 hn, hb.cell h.c10 hn, hb.cell h.c11 hn, hb.cell h.c12 hn, hb.cell h.c13 hn, h.bs.trans hb fun k _ hk => hS k hk, h.kG, fun k hk => Nat.lt_of_lt_of_le (h.kl k hk) hb.size⟩
theorem McC.below {w w' : World} {G : Nat} {tv fv sv : Value} {m : Mc} (h : McC w G tv fv sv m) (hb : Below w.heap.size w w') : McC w' G tv fv sv m :=
 h.bar (Bar.of_below (S := fun _ => False) hb) id fun _ h => h.elim
def Bq (G : Nat) : Nat → Prop := fun k => k = G
def McP (G : Nat) (tv fv sv : Value) (m : Mc) (w : World) (v : Value) (e : Ending) (w' : World) : Prop := e = .returned v ∧ McC w' G tv fv sv m ∧ Bar (Bq G) w w'
theorem cS {W : World} {G i j : Nat} {v u : Value} (h : W.cell? ⟨G, j, none⟩ = some u) : (W.setCell ⟨G, i, none⟩ v).cell? ⟨G, j, none⟩ = some (if i = j then v else u) := by
 by_cases e : i = j
 ·subst e; rw [if_pos rfl]; exact setS h
 ·rw [if_neg e]; exact setO h fun e2 => e (by injection e2)
theorem sB {G : Nat} {w w' : World} {i : Nat} (v : Value) (h : Bar (Bq G) w w') : Bar (Bq G) w (w'.setCell ⟨G, i, none⟩ v) := h.trans (Bar.set (S := Bq G) ⟨G, i, none⟩ v rfl) fun _ _ hs => hs
theorem bsS {S : Nat → Prop} {a w : World} {G i : Nat} {v : Value} (h : Bar S a w) (hG : S G) : Bar S a (w.setCell ⟨G, i, none⟩ v) := h.trans (Bar.set (S := S) ⟨G, i, none⟩ v hG) fun _ _ h => h
theorem give_set {w : World} {G : Nat} {tv fv sv : Value} {m : Mc} (h : McC w G tv fv sv m) (t : Th) :
  McC ((((((w.setCell ⟨G, 6, none⟩ (.bool true)).setCell ⟨G, 7, none⟩ (.int .i64 t.a)).setCell ⟨G, 8, none⟩ (.int .i64 t.b)).setCell ⟨G, 9, none⟩ (.pointer t.c)).setCell ⟨G, 10, none⟩ (.pointer t.d)).setCell ⟨G, 11, none⟩ (.pointer t.e)) G tv fv sv { m with hv := true, th := t } ∧ Bar (Bq G) w ((((((w.setCell ⟨G, 6, none⟩ (.bool true)).setCell ⟨G, 7, none⟩ (.int .i64 t.a)).setCell ⟨G, 8, none⟩ (.int .i64 t.b)).setCell ⟨G, 9, none⟩ (.pointer t.c)).setCell ⟨G, 10, none⟩ (.pointer t.d)).setCell ⟨G, 11, none⟩ (.pointer t.e)) :=
 ⟨⟨by simp; exact h.lt, TyAt.set (TyAt.set (TyAt.set (TyAt.set (TyAt.set (TyAt.set (h.ty) _ _) _ _) _ _) _ _) _ _) _ _, fun o => by simp [h.fz], (cS (cS (cS (cS (cS (cS h.c0)))))).trans (by simp), (cS (cS (cS (cS (cS (cS h.c1)))))).trans (by simp), (cS (cS (cS (cS (cS (cS h.c2)))))).trans (by simp), (cS (cS (cS (cS (cS (cS h.c3)))))).trans (by simp), (cS (cS (cS (cS (cS (cS h.c4)))))).trans (by simp), (cS (cS (cS (cS (cS (cS h.c5)))))).trans (by simp), (cS (cS (cS (cS (cS (cS h.c6)))))).trans (by simp), (cS (cS (cS (cS (cS (cS h.c7)))))).trans (by simp), (cS (cS (cS (cS (cS (cS h.c8)))))).trans (by simp), (cS (cS (cS (cS (cS (cS h.c9)))))).trans (by simp), (cS (cS (cS (cS (cS (cS h.c10)))))).trans (by simp), (cS (cS (cS (cS (cS (cS h.c11)))))).trans (by simp), (cS (cS (cS (cS (cS (cS h.c12)))))).trans (by simp), (cS (cS (cS (cS (cS (cS h.c13)))))).trans (by simp), (bsS (bsS (bsS (bsS (bsS (bsS h.bs h.kG) h.kG) h.kG) h.kG) h.kG) h.kG), h.kG, fun k hk => by simp; exact h.kl k hk⟩, sB _ (sB _ (sB _ (sB _ (sB _ (sB _ (Bar.refl _ w))))))⟩
theorem enter_set {w : World} {G : Nat} {tv fv sv : Value} {m : Mc} (h : McC w G tv fv sv m) (n : Int) (p : Option Addr) :
  McC (((w.setCell ⟨G, 6, none⟩ (.bool false)).setCell ⟨G, 12, none⟩ (.int .i64 n)).setCell ⟨G, 13, none⟩ (.pointer p)) G tv fv sv { m with hv := false, nd := n, en := p } ∧ Bar (Bq G) w (((w.setCell ⟨G, 6, none⟩ (.bool false)).setCell ⟨G, 12, none⟩ (.int .i64 n)).setCell ⟨G, 13, none⟩ (.pointer p)) :=
 ⟨⟨by simp; exact h.lt, TyAt.set (TyAt.set (TyAt.set (h.ty) _ _) _ _) _ _, fun o => by simp [h.fz], (cS (cS (cS h.c0))).trans (by simp), (cS (cS (cS h.c1))).trans (by simp), (cS (cS (cS h.c2))).trans (by simp), (cS (cS (cS h.c3))).trans (by simp), (cS (cS (cS h.c4))).trans (by simp), (cS (cS (cS h.c5))).trans (by simp), (cS (cS (cS h.c6))).trans (by simp), (cS (cS (cS h.c7))).trans (by simp), (cS (cS (cS h.c8))).trans (by simp), (cS (cS (cS h.c9))).trans (by simp), (cS (cS (cS h.c10))).trans (by simp), (cS (cS (cS h.c11))).trans (by simp), (cS (cS (cS h.c12))).trans (by simp), (cS (cS (cS h.c13))).trans (by simp), (bsS (bsS (bsS h.bs h.kG) h.kG) h.kG), h.kG, fun k hk => by simp; exact h.kl k hk⟩, sB _ (sB _ (sB _ (Bar.refl _ w)))⟩
theorem end_set {w : World} {G : Nat} {tv fv sv : Value} {m : Mc} (h : McC w G tv fv sv m) (k n : Int) :
  McC (((w.setCell ⟨G, 0, none⟩ (.int .i64 k)).setCell ⟨G, 1, none⟩ (.int .i64 n)).setCell ⟨G, 2, none⟩ (.bool true)) G tv fv sv { m with k := k, n := n, ended := true } ∧ Bar (Bq G) w (((w.setCell ⟨G, 0, none⟩ (.int .i64 k)).setCell ⟨G, 1, none⟩ (.int .i64 n)).setCell ⟨G, 2, none⟩ (.bool true)) :=
 ⟨⟨by simp; exact h.lt, TyAt.set (TyAt.set (TyAt.set (h.ty) _ _) _ _) _ _, fun o => by simp [h.fz], (cS (cS (cS h.c0))).trans (by simp), (cS (cS (cS h.c1))).trans (by simp), (cS (cS (cS h.c2))).trans (by simp), (cS (cS (cS h.c3))).trans (by simp), (cS (cS (cS h.c4))).trans (by simp), (cS (cS (cS h.c5))).trans (by simp), (cS (cS (cS h.c6))).trans (by simp), (cS (cS (cS h.c7))).trans (by simp), (cS (cS (cS h.c8))).trans (by simp), (cS (cS (cS h.c9))).trans (by simp), (cS (cS (cS h.c10))).trans (by simp), (cS (cS (cS h.c11))).trans (by simp), (cS (cS (cS h.c12))).trans (by simp), (cS (cS (cS h.c13))).trans (by simp), (bsS (bsS (bsS h.bs h.kG) h.kG) h.kG), h.kG, fun k hk => by simp; exact h.kl k hk⟩, sB _ (sB _ (sB _ (Bar.refl _ w)))⟩
theorem mc_fin {w W1 W2 : World} {G : Nat} {tv fv sv : Value} {m : Mc} (h : McC W1 G tv fv sv m ∧ Bar (Bq G) w W1) (hb : Below W1.heap.size W1 W2) : McC W2 G tv fv sv m ∧ Bar (Bq G) w W2 := ⟨h.1.below hb, h.2.next hb⟩
theorem give_any (w : World) (G : Nat) (tv fv sv : Value) (m : Mc) (t : Th) (h : Hid (McC w G tv fv sv m)) :
  Calls Try.prog 79 #[.pointer (some ⟨G, 0, none⟩), t.val] w (McP G tv fv sv { m with hv := true, th := t } w (.tuple #[])) := by
 have hG := h.out.lt
 have hS := Lib.hid (give_set h.out t)
 have hc6 := h.out.c6; have hc7 := h.out.c7; have hc8 := h.out.c8; have hc9 := h.out.c9; have hc10 := h.out.c10; have hc11 := h.out.c11; have hfz := h.out.fz
 obtain ⟨a, b, c, d, e⟩ := t
 unfold Th.val
 go_enter Try.func79, Try.ntmps79
 go_wp2_with fail
 go_region
 go_end0
 exact ⟨rfl, mc_fin hS.out (by (repeat' (first | (with_reducible first | exact bR _ _ | assumption | apply bS | apply bA | apply bD | apply bN | exact bL _) | (simp; done) | (simp; omega) | omega | exact bL _)))⟩
theorem enter_any (w : World) (G : Nat) (tv fv sv : Value) (m : Mc) (n : Int) (p : Option Addr) (h : Hid (McC w G tv fv sv m)) :
  Calls Try.prog 17 #[.pointer (some ⟨G, 0, none⟩), .int .i64 n, .agg #[.pointer p]] w (McP G tv fv sv { m with hv := false, nd := n, en := p } w (.tuple #[])) := by
 have hG := h.out.lt
 have hS := Lib.hid (enter_set h.out n p)
 have hc6 := h.out.c6; have hc12 := h.out.c12; have hc13 := h.out.c13; have hfz := h.out.fz
 go_enter Try.func17, Try.ntmps17
 go_wp2_with fail
 go_region
 go_end0
 exact ⟨rfl, mc_fin hS.out (by (repeat' (first | (with_reducible first | exact bR _ _ | assumption | apply bS | apply bA | apply bD | apply bN | exact bL _) | (simp; done) | (simp; omega) | omega | exact bL _)))⟩
theorem end_any (w : World) (G : Nat) (tv fv sv : Value) (m : Mc) (k n : Int) (h : Hid (McC w G tv fv sv m)) :
  Calls Try.prog 86 #[.pointer (some ⟨G, 0, none⟩), .agg #[.int .i64 k, .int .i64 n]] w (McP G tv fv sv { m with k := k, n := n, ended := true } w (.tuple #[])) := by
 have hG := h.out.lt
 have hS := Lib.hid (end_set h.out k n)
 have hc0 := h.out.c0; have hc1 := h.out.c1; have hc2 := h.out.c2; have hfz := h.out.fz
 go_enter Try.func86, Try.ntmps86
 go_wp2_with fail
 go_end0
 exact ⟨rfl, mc_fin hS.out (by (repeat' (first | (with_reducible first | exact bR _ _ | assumption | apply bS | apply bA | apply bD | apply bN | exact bL _) | (simp; done) | (simp; omega) | omega | exact bL _)))⟩
theorem stuck_any (w : World) (G : Nat) (tv fv sv : Value) (m : Mc) (h : Hid (McC w G tv fv sv m)) :
  Calls Try.prog 78 #[.pointer (some ⟨G, 0, none⟩)] w (McP G tv fv sv { m with k := 5, n := 0, ended := true } w (.tuple #[])) := by
 have hG := h.out.lt
 have hE := Lib.hid fun (W : World) (hh : Hid (McC W G tv fv sv m)) => end_any W G tv fv sv m 5 0 hh
 go_enter Try.func78, Try.ntmps78
 go_wp2_with fail
 refine (hE.out _ (Lib.hid (h.out.below (by (repeat' (first | (with_reducible first | exact bR _ _ | assumption | apply bS | apply bA | apply bD | apply bN | exact bL _) | (simp; done) | (simp; omega) | omega | exact bL _)))))).mono ?_
 rintro e w1 ⟨rfl, h1, h2⟩
 go_wp2_with fail
 go_end0
 exact ⟨rfl, h1, ((Bar.of_below (S := Bq G) (by (repeat' (first | (with_reducible first | exact bR _ _ | assumption | apply bS | apply bA | apply bD | apply bN | exact bL _) | (simp; done) | (simp; omega) | omega | exact bL _)))).trans h2 fun _ _ hs => hs)⟩
theorem ended_any (w : World) (G : Nat) (tv fv sv : Value) (m : Mc) (h : Hid (McC w G tv fv sv m)) :
  Calls Try.prog 71 #[.pointer (some ⟨G, 0, none⟩)] w fun e w' => e = .returned (.tuple #[.agg #[.int .i64 m.k, .int .i64 m.n], .bool m.ended]) ∧ Below w.heap.size w w' := by
 have hG := h.out.lt
 have hc0 := h.out.c0; have hc1 := h.out.c1; have hc2 := h.out.c2; have hfz := h.out.fz
 go_enter Try.func71, Try.ntmps71
 go_wp2_with fail
 go_region
 go_wp2_with fail
 exact bodyPost_ret (v := .tuple #[.agg #[.int .i64 m.k, .int .i64 m.n], .bool m.ended]) (by simp [results, Try.results71, go_sem, *]) rfl ⟨rfl, by (repeat' (first | (with_reducible first | exact bR _ _ | assumption | apply bS | apply bA | apply bD | apply bN | exact bL _) | (simp; done) | (simp; omega) | omega | exact bL _))⟩
open Go.RowKit
def outK (k n : Int) : Int × Int := if k = 0 then (0, n) else if k = 1 then (1, n) else if k = 2 ∨ k = 3 ∨ k = 4 then (2, 0) else (5, 0)
theorem out_kind {A : Nat → Prop} {W : World} {v : RV} {t : Th} (h : RR A W v (.inl t)) : outN v = outK t.a t.b := by
 cases v with
 | num n => cases h; rfl
 | tru n => cases h; rfl
 | fn n e => obtain ⟨c, l, h, _⟩ := h; cases h; rfl
 | bnd n e f => obtain ⟨c, l, d, u, h, _⟩ := h; cases h; rfl
 | fwd f g => obtain ⟨d, u, e, x, h, _⟩ := h; cases h; rfl
 | ret u => obtain ⟨d, u, h, _⟩ := h; cases h; rfl
 | op n u f => obtain ⟨d, u, e, x, h, _⟩ := h; cases h; rfl
 | nil => cases h
 | cons u r => obtain ⟨u, l, h, _⟩ := h; cases h
theorem out_ret {A : Nat → Prop} {W : World} {v : RV} {t : Th} (h : RR A W v (.inl t)) :
  (t.a ≠ 5 ∧ outR v = (5, 0)) ∨ (t.a = 5 ∧ ∃ g o k n, t.d = some ⟨g, o, none⟩ ∧ g < W.heap.size ∧ W.cell? ⟨g, o, none⟩ = some (.int .i64 k) ∧ W.cell? ⟨g, o + 1, none⟩ = some (.int .i64 n) ∧ outR v = outK k n) := by
 cases v with
 | num n => cases h; exact .inl ⟨by show (0 : Int) ≠ 5; decide, rfl⟩
 | tru n => cases h; exact .inl ⟨by show (1 : Int) ≠ 5; decide, rfl⟩
 | fn n e => obtain ⟨c, l, h, _⟩ := h; cases h; exact .inl ⟨by show (2 : Int) ≠ 5; decide, rfl⟩
 | bnd n e f => obtain ⟨c, l, d, u, h, _⟩ := h; cases h; exact .inl ⟨by show (3 : Int) ≠ 5; decide, rfl⟩
 | fwd f g => obtain ⟨d, u, e, x, h, _⟩ := h; cases h; exact .inl ⟨by show (4 : Int) ≠ 5; decide, rfl⟩
 | ret u =>
  obtain ⟨d, x, h, ⟨g, o, hd, hg, _, hc⟩, hu⟩ := h
  cases h
  exact .inr ⟨rfl, g, o, x.a, x.b, hd, hg, hc.1, hc.2.1, out_kind hu⟩
 | op n u f => obtain ⟨d, u, e, x, h, _⟩ := h; cases h; exact .inl ⟨by show (6 : Int) ≠ 5; decide, rfl⟩
 | nil => cases h
 | cons u r => obtain ⟨u, l, h, _⟩ := h; cases h
theorem outcome_any (A : Nat → Prop) (W : World) (v : RV) (t : Th) (h : Hid (RR A W v (.inl t))) :
  Calls Try.prog 72 #[t.val] W fun e w' => e = .returned (.agg #[.int .i64 (outR v).1, .int .i64 (outR v).2]) ∧ Below W.heap.size W w' := by
 rcases out_ret h.out with ⟨h5, ho⟩ | ⟨h5, g, o, k, n, hd, hg, hk, hn, ho⟩
 ·rw [ho]
  obtain ⟨a, b, c, d, e⟩ := t
  clear h ho
  simp only at h5
  unfold Th.val
  go_enter Try.func72, Try.ntmps72
  go_wp2_with fail
  all_goals exact bodyPost_ret (v := .agg #[.int .i64 5, .int .i64 0]) (by simp [results, Try.results72, go_sem, *]) rfl ⟨rfl, by (repeat' (first | (with_reducible first | exact bR _ _ | assumption | apply bS | apply bA | apply bD | apply bN | exact bL _) | (simp; done) | (simp; omega) | omega | exact bL _))⟩
 ·rw [ho]
  obtain ⟨a, b, c, d, e⟩ := t
  clear h ho
  simp only at h5 hd
  subst h5 hd
  obtain ⟨x, hq⟩ : ∃ x, outK k n = x := ⟨_, rfl⟩
  rw [hq]
  have hk6 : k = 0 ∨ k = 1 ∨ k = 2 ∨ k = 3 ∨ k = 4 ∨ (k ≠ 0 ∧ k ≠ 1 ∧ k ≠ 2 ∧ k ≠ 3 ∧ k ≠ 4) := by omega
  rcases hk6 with rfl | rfl | rfl | rfl | rfl | ⟨k0, k1, k2, k3, k4⟩
  all_goals (unfold outK at hq; simp [*] at hq; subst hq)
  all_goals unfold Th.val
  all_goals go_enter Try.func72, Try.ntmps72
  all_goals go_wp2_with fail
  all_goals exact bodyPost_ret (v := .agg #[.int .i64 _, .int .i64 _]) (by simp [results, Try.results72, go_sem, *]) rfl ⟨rfl, by (repeat' (first | (with_reducible first | exact bR _ _ | assumption | apply bS | apply bA | apply bD | apply bN | exact bL _) | (simp; done) | (simp; omega) | omega | exact bL _))⟩
theorem frames_any (w : World) (G : Nat) (tv fv : Value) (a : Option Addr) (n c : Nat) (m : Mc) (h : Hid (McC w G tv fv (.slice a n c) m)) :
  Calls Try.prog 68 #[.pointer (some ⟨G, 0, none⟩)] w fun e w' => e = .returned (.int .i64 n) ∧ Below w.heap.size w w' := by
 have hG := h.out.lt
 have hc5 := h.out.c5; have hfz := h.out.fz
 go_enter Try.func68, Try.ntmps68
 go_wp2_with fail
 go_ret
 exact ⟨rfl, by (repeat' (first | (with_reducible first | exact bR _ _ | assumption | apply bS | apply bA | apply bD | apply bN | exact bL _) | (simp; done) | (simp; omega) | omega | exact bL _))⟩
end Go.Proofs.Ytnjalpcmjkahkaa
