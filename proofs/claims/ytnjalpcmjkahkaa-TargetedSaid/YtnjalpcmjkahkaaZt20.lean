/- The reference's engine for targets: its object, its small functions. -/
import Derived.Test.YtnjalpcmjkahkaaZt18
import Derived.Test.YtnjalpcmjkahkaaZt19
set_option maxRecDepth 100000
set_option maxHeartbeats 8000000
namespace Go.Proofs.Ytnjalpcmjkahkaa
open Go.RowKit
set_option linter.unusedVariables false
set_option linter.unusedSimpArgs false
structure Ec where
 ev : Bool
 nd : Int
 en : Option Addr
 th : V7
 dn : Bool
 k : Int
 n : Int
 w0 : Gh
structure EcC (w : World) (G : Nat) (tv sv : Value) (m : Ec) : Prop where
 lt : G < w.heap.size
 ty : TyAt w G 69
 fz : ∀ o, w.frozen? ⟨G, o, none⟩ = false
 c0 : w.cell? ⟨G, 0, none⟩ = some (tv)
 c1 : w.cell? ⟨G, 1, none⟩ = some (sv)
 c2 : w.cell? ⟨G, 2, none⟩ = some (.bool m.ev)
 c3 : w.cell? ⟨G, 3, none⟩ = some (.int .i64 m.nd)
 c4 : w.cell? ⟨G, 4, none⟩ = some (.pointer m.en)
 c5 : w.cell? ⟨G, 5, none⟩ = some (.int .i64 m.th.k)
 c6 : w.cell? ⟨G, 6, none⟩ = some (.int .i64 m.th.n)
 c7 : w.cell? ⟨G, 7, none⟩ = some (.int .i64 m.th.nd)
 c8 : w.cell? ⟨G, 8, none⟩ = some (.pointer m.th.en)
 c9 : w.cell? ⟨G, 9, none⟩ = some (.slice none 0 0)
 c10 : w.cell? ⟨G, 10, none⟩ = some (.pointer m.th.one)
 c11 : w.cell? ⟨G, 11, none⟩ = some (.pointer m.th.two)
 c12 : w.cell? ⟨G, 12, none⟩ = some (.bool m.dn)
 c13 : w.cell? ⟨G, 13, none⟩ = some (.int .i64 m.k)
 c14 : w.cell? ⟨G, 14, none⟩ = some (.int .i64 m.n)
 bs : Bar (fun k => ¬ m.w0.2 k) m.w0.1 w
 kG : ¬ m.w0.2 G
 kl : ∀ k, m.w0.2 k → k < w.heap.size
theorem EcC.bar {S : Nat → Prop} {w w' : World} {G : Nat} {tv sv : Value} {m : Ec} (h : EcC w G tv sv m) (hb : Bar S w w') (hn : ¬ S G) (hS : ∀ k, S k → ¬ m.w0.2 k) : EcC w' G tv sv m :=
 ⟨by have := hb.size; have := h.lt; omega, h.ty.bar hb hn, fun o => by rw [hb.frozen (a := ⟨G, o, none⟩) h.lt hn]; exact h.fz o, hb.cell h.c0 hn, hb.cell h.c1 hn, hb.cell h.c2 hn, hb.cell h.c3 hn, hb.cell h.c4 hn, hb.cell h.c5 hn, hb.cell h.c6 hn, hb.cell h.c7 hn, hb.cell h.c8 hn, hb.cell h.c9 hn, hb.cell h.c10 hn, hb.cell h.c11 hn, hb.cell h.c12 hn, hb.cell h.c13 hn, hb.cell h.c14 hn, h.bs.trans hb fun k _ hk => hS k hk, h.kG, fun k hk => Nat.lt_of_lt_of_le (h.kl k hk) hb.size⟩
theorem EcC.below {w w' : World} {G : Nat} {tv sv : Value} {m : Ec} (h : EcC w G tv sv m) (hb : Below w.heap.size w w') : EcC w' G tv sv m :=
 h.bar (Bar.of_below (S := fun _ => False) hb) id fun _ h => h.elim
theorem goes_set {w : World} {G : Nat} {tv sv : Value} {m : Ec} (h : EcC w G tv sv m) (n : Int) (p : Option Addr) :
  EcC (((w.setCell ⟨G, 2, none⟩ (.bool true)).setCell ⟨G, 3, none⟩ (.int .i64 n)).setCell ⟨G, 4, none⟩ (.pointer p)) G tv sv { m with ev := true, nd := n, en := p } ∧ Bar (Bq G) w (((w.setCell ⟨G, 2, none⟩ (.bool true)).setCell ⟨G, 3, none⟩ (.int .i64 n)).setCell ⟨G, 4, none⟩ (.pointer p)) :=
 ⟨⟨by simp; exact h.lt, (TyAt.set (TyAt.set (TyAt.set h.ty _ _) _ _) _ _), fun o => by simp [h.fz], (cS (cS (cS h.c0))).trans (by simp), (cS (cS (cS h.c1))).trans (by simp), (cS (cS (cS h.c2))).trans (by simp), (cS (cS (cS h.c3))).trans (by simp), (cS (cS (cS h.c4))).trans (by simp), (cS (cS (cS h.c5))).trans (by simp), (cS (cS (cS h.c6))).trans (by simp), (cS (cS (cS h.c7))).trans (by simp), (cS (cS (cS h.c8))).trans (by simp), (cS (cS (cS h.c9))).trans (by simp), (cS (cS (cS h.c10))).trans (by simp), (cS (cS (cS h.c11))).trans (by simp), (cS (cS (cS h.c12))).trans (by simp), (cS (cS (cS h.c13))).trans (by simp), (cS (cS (cS h.c14))).trans (by simp), (bsS (bsS (bsS h.bs h.kG) h.kG) h.kG), h.kG, fun k hk => by simp; exact h.kl k hk⟩, (sB _ (sB _ (sB _ (Bar.refl _ w))))⟩
theorem gives_set {w : World} {G : Nat} {tv sv : Value} {m : Ec} (h : EcC w G tv sv m) (t : V7) :
  EcC ((((((((w.setCell ⟨G, 2, none⟩ (.bool false)).setCell ⟨G, 5, none⟩ (.int .i64 t.k)).setCell ⟨G, 6, none⟩ (.int .i64 t.n)).setCell ⟨G, 7, none⟩ (.int .i64 t.nd)).setCell ⟨G, 8, none⟩ (.pointer t.en)).setCell ⟨G, 9, none⟩ (.slice none 0 0)).setCell ⟨G, 10, none⟩ (.pointer t.one)).setCell ⟨G, 11, none⟩ (.pointer t.two)) G tv sv { m with ev := false, th := t } ∧ Bar (Bq G) w ((((((((w.setCell ⟨G, 2, none⟩ (.bool false)).setCell ⟨G, 5, none⟩ (.int .i64 t.k)).setCell ⟨G, 6, none⟩ (.int .i64 t.n)).setCell ⟨G, 7, none⟩ (.int .i64 t.nd)).setCell ⟨G, 8, none⟩ (.pointer t.en)).setCell ⟨G, 9, none⟩ (.slice none 0 0)).setCell ⟨G, 10, none⟩ (.pointer t.one)).setCell ⟨G, 11, none⟩ (.pointer t.two)) :=
 ⟨⟨by simp; exact h.lt, (TyAt.set (TyAt.set (TyAt.set (TyAt.set (TyAt.set (TyAt.set (TyAt.set (TyAt.set h.ty _ _) _ _) _ _) _ _) _ _) _ _) _ _) _ _), fun o => by simp [h.fz], (cS (cS (cS (cS (cS (cS (cS (cS h.c0)))))))).trans (by simp), (cS (cS (cS (cS (cS (cS (cS (cS h.c1)))))))).trans (by simp), (cS (cS (cS (cS (cS (cS (cS (cS h.c2)))))))).trans (by simp), (cS (cS (cS (cS (cS (cS (cS (cS h.c3)))))))).trans (by simp), (cS (cS (cS (cS (cS (cS (cS (cS h.c4)))))))).trans (by simp), (cS (cS (cS (cS (cS (cS (cS (cS h.c5)))))))).trans (by simp), (cS (cS (cS (cS (cS (cS (cS (cS h.c6)))))))).trans (by simp), (cS (cS (cS (cS (cS (cS (cS (cS h.c7)))))))).trans (by simp), (cS (cS (cS (cS (cS (cS (cS (cS h.c8)))))))).trans (by simp), (cS (cS (cS (cS (cS (cS (cS (cS h.c9)))))))).trans (by simp), (cS (cS (cS (cS (cS (cS (cS (cS h.c10)))))))).trans (by simp), (cS (cS (cS (cS (cS (cS (cS (cS h.c11)))))))).trans (by simp), (cS (cS (cS (cS (cS (cS (cS (cS h.c12)))))))).trans (by simp), (cS (cS (cS (cS (cS (cS (cS (cS h.c13)))))))).trans (by simp), (cS (cS (cS (cS (cS (cS (cS (cS h.c14)))))))).trans (by simp), (bsS (bsS (bsS (bsS (bsS (bsS (bsS (bsS h.bs h.kG) h.kG) h.kG) h.kG) h.kG) h.kG) h.kG) h.kG), h.kG, fun k hk => by simp; exact h.kl k hk⟩, (sB _ (sB _ (sB _ (sB _ (sB _ (sB _ (sB _ (sB _ (Bar.refl _ w)))))))))⟩
theorem eend_set {w : World} {G : Nat} {tv sv : Value} {m : Ec} (h : EcC w G tv sv m) (k n : Int) :
  EcC (((w.setCell ⟨G, 12, none⟩ (.bool true)).setCell ⟨G, 13, none⟩ (.int .i64 k)).setCell ⟨G, 14, none⟩ (.int .i64 n)) G tv sv { m with dn := true, k := k, n := n } ∧ Bar (Bq G) w (((w.setCell ⟨G, 12, none⟩ (.bool true)).setCell ⟨G, 13, none⟩ (.int .i64 k)).setCell ⟨G, 14, none⟩ (.int .i64 n)) :=
 ⟨⟨by simp; exact h.lt, (TyAt.set (TyAt.set (TyAt.set h.ty _ _) _ _) _ _), fun o => by simp [h.fz], (cS (cS (cS h.c0))).trans (by simp), (cS (cS (cS h.c1))).trans (by simp), (cS (cS (cS h.c2))).trans (by simp), (cS (cS (cS h.c3))).trans (by simp), (cS (cS (cS h.c4))).trans (by simp), (cS (cS (cS h.c5))).trans (by simp), (cS (cS (cS h.c6))).trans (by simp), (cS (cS (cS h.c7))).trans (by simp), (cS (cS (cS h.c8))).trans (by simp), (cS (cS (cS h.c9))).trans (by simp), (cS (cS (cS h.c10))).trans (by simp), (cS (cS (cS h.c11))).trans (by simp), (cS (cS (cS h.c12))).trans (by simp), (cS (cS (cS h.c13))).trans (by simp), (cS (cS (cS h.c14))).trans (by simp), (bsS (bsS (bsS h.bs h.kG) h.kG) h.kG), h.kG, fun k hk => by simp; exact h.kl k hk⟩, (sB _ (sB _ (sB _ (Bar.refl _ w))))⟩
def EcP (G : Nat) (tv sv : Value) (m : Ec) (w : World) (e : Ending) (w' : World) : Prop := e = .returned (.tuple #[]) ∧ EcC w' G tv sv m ∧ Bar (Bq G) w w'
theorem ec_fin {w W1 W2 : World} {G : Nat} {tv sv : Value} {m : Ec} (h : EcC W1 G tv sv m ∧ Bar (Bq G) w W1) (hb : Below W1.heap.size W1 W2) : EcC W2 G tv sv m ∧ Bar (Bq G) w W2 := ⟨h.1.below hb, h.2.next hb⟩
theorem goes_any (w : World) (G : Nat) (tv sv : Value) (m : Ec) (n : Int) (p : Option Addr) (h : Hid (EcC w G tv sv m)) :
  Calls Try.prog 20 #[.pointer (some ⟨G, 0, none⟩), .int .i64 n, .pointer p] w (EcP G tv sv { m with ev := true, nd := n, en := p } w) := by
 have hG := h.out.lt
 have hS := Lib.hid (goes_set h.out n p)
 have hc2 := h.out.c2; have hc3 := h.out.c3; have hc4 := h.out.c4; have hfz := h.out.fz
 go_enter Try.func20, Try.ntmps20
 go_wp2_with fail
 go_end0
 exact ⟨rfl, ec_fin hS.out (by (repeat' (first | (with_reducible first | exact bR _ _ | assumption | apply bS | apply bA | apply bD | apply bN | exact bL _) | (simp; done) | (simp; omega) | omega | exact bL _)))⟩
theorem gives_any (w : World) (G : Nat) (tv sv : Value) (m : Ec) (t : V7) (h : Hid (EcC w G tv sv m)) :
  Calls Try.prog 44 #[.pointer (some ⟨G, 0, none⟩), t.val] w (EcP G tv sv { m with ev := false, th := t } w) := by
 obtain ⟨W0, hW0⟩ : ∃ W, w.alloc (.cells #[.int .i64 t.k, .int .i64 t.n, .int .i64 t.nd, .pointer t.en, .slice none 0 0, .pointer t.one, .pointer t.two] 67) = W := ⟨_, rfl⟩
 have hb0 : Below w.heap.size w W0 := by rw [← hW0]; exact below_alc _ _
 have h0 := h.out.below hb0
 have v0 : W0.cell? ⟨w.heap.size, 0, none⟩ = some (.int .i64 t.k) := by rw [← hW0]; simp [go_sem]
 have v1 : W0.cell? ⟨w.heap.size, 1, none⟩ = some (.int .i64 t.n) := by rw [← hW0]; simp [go_sem]
 have v2 : W0.cell? ⟨w.heap.size, 2, none⟩ = some (.int .i64 t.nd) := by rw [← hW0]; simp [go_sem]
 have v3 : W0.cell? ⟨w.heap.size, 3, none⟩ = some (.pointer t.en) := by rw [← hW0]; simp [go_sem]
 have v4 : W0.cell? ⟨w.heap.size, 4, none⟩ = some (.slice none 0 0) := by rw [← hW0]; simp [go_sem]
 have v5 : W0.cell? ⟨w.heap.size, 5, none⟩ = some (.pointer t.one) := by rw [← hW0]; simp [go_sem]
 have v6 : W0.cell? ⟨w.heap.size, 6, none⟩ = some (.pointer t.two) := by rw [← hW0]; simp [go_sem]
 have hl0 : w.heap.size < W0.heap.size := by rw [← hW0]; simp
 have hG := h0.lt
 have hne : ¬ G = w.heap.size := by have := h.out.lt; omega
 have hS := Lib.hid (gives_set h0 t)
 have hc2 := h0.c2; have hc5 := h0.c5; have hc6 := h0.c6; have hc7 := h0.c7; have hc8 := h0.c8; have hc9 := h0.c9; have hc10 := h0.c10; have hc11 := h0.c11; have hfz := h0.fz
 have hb0 := Lib.hid hb0
 have hW0 := Lib.hid hW0
 clear h0
 unfold V7.val
 go_enter Try.func44, Try.ntmps44
 go_upto_region 1 with fail
 try rw [hW0.out]
 clear hW0
 go_wp2_with fail
 go_end0
 exact ⟨rfl, by
  obtain ⟨a, b⟩ := ec_fin hS.out (Below.refl _ _)
  exact ⟨a, (Bar.of_below (S := Bq G) hb0.out).trans b fun _ _ h => h⟩⟩
theorem eend_any (w : World) (G : Nat) (tv sv : Value) (m : Ec) (k n : Int) (h : Hid (EcC w G tv sv m)) :
  Calls Try.prog 43 #[.pointer (some ⟨G, 0, none⟩), .int .i64 k, .int .i64 n] w (EcP G tv sv { m with dn := true, k := k, n := n } w) := by
 have hG := h.out.lt
 have hS := Lib.hid (eend_set h.out k n)
 have hc12 := h.out.c12; have hc13 := h.out.c13; have hc14 := h.out.c14; have hfz := h.out.fz
 go_enter Try.func43, Try.ntmps43
 go_wp2_with fail
 go_end0
 exact ⟨rfl, ec_fin hS.out (by (repeat' (first | (with_reducible first | exact bR _ _ | assumption | apply bS | apply bA | apply bD | apply bN | exact bL _) | (simp; done) | (simp; omega) | omega | exact bL _)))⟩
end Go.Proofs.Ytnjalpcmjkahkaa
