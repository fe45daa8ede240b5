/- awake of layer 2. -/
import Derived.Test.YtgpjdifjajailaaDoorLxK
namespace Go.Proofs.YtgpjdifjajailaaDoor
open Go.RowKit
set_option linter.unusedVariables false
set_option linter.unusedSimpArgs false

def s1 : ByteArray := ⟨#[108, 101, 116, 32, 120, 49, 32, 61, 32, 50, 48, 32, 35, 32, 110, 111, 10, 45, 62]⟩
def l1 : List Tk := [⟨2, [108, 101, 116], 0, 0⟩, ⟨0, [120, 49], 0, 4⟩, ⟨3, [61], 0, 7⟩, ⟨1, [], 20, 9⟩, ⟨3, [45, 62], 0, 17⟩]
theorem lex1 : lexR ⟨#[108, 101, 116, 32, 120, 49, 32, 61, 32, 50, 48, 32, 35, 32, 110, 111, 10, 45, 62]⟩ = (l1, 0, 0) := by decide +kernel
theorem lex2 : lexR ⟨#[97, 32, 36]⟩ = ([], 2, 201) := by decide +kernel
theorem lex3 : lexR ⟨#[32, 48, 49]⟩ = ([], 1, 202) := by decide +kernel
theorem lex4 : lexR ⟨#[97, 255]⟩ = ([], 1, 200) := by decide +kernel
theorem rd_new {W : World} {c : Array Value} {T : TypeId} {n m : Nat} {l : List Tk} (h : c.toList = tkL l) (hn : n = l.length) : RdK (W.alloc (.cells c T)) (.slice (some ⟨W.heap.size, 0, none⟩) n m) l := by
  subst hn
  refine .inr ⟨W.heap.size, m, rfl, by simp, tkSl_of fun j u hj => ?_⟩
  rw [← h] at hj
  rw [Nat.zero_add, World.cell?_alloc_at _ _ _ _ (by simp)]
  simpa using hj
theorem kw_t (W : World) : Calls Tryd.prog 13 #[.string ⟨#[114, 101, 99]⟩] W fun e w' => e = .returned (.bool true) ∧ W = w' := (keyword_any _ W).mono fun e w' ⟨h, h2⟩ => ⟨by rw [h]; rfl, h2⟩
theorem kw_f (W : World) : Calls Tryd.prog 13 #[.string ⟨#[114, 101]⟩] W fun e w' => e = .returned (.bool false) ∧ W = w' := (keyword_any _ W).mono fun e w' ⟨h, h2⟩ => ⟨by rw [h]; rfl, h2⟩

set_option maxRecDepth 100000 in
set_option maxHeartbeats 4000000 in
theorem awake_any (w : World) (hg : errTy w) : Calls Tryd.prog 16 #[] w fun e w' => e = .returned (.bool true) ∧ Below w.heap.size w w' := by
  have k1 := Lib.hid fun (W : World) (h : errTy W) => tokens_any ⟨#[108, 101, 116, 32, 120, 49, 32, 61, 32, 50, 48, 32, 35, 32, 110, 111, 10, 45, 62]⟩ W (by decide) h
  rw [lex1] at k1
  have k2 := Lib.hid fun (W : World) (h : errTy W) => tokens_any ⟨#[97, 32, 36]⟩ W (by decide) h
  rw [lex2] at k2
  have k3 := Lib.hid fun (W : World) (h : errTy W) => tokens_any ⟨#[32, 48, 49]⟩ W (by decide) h
  rw [lex3] at k3
  have k4 := Lib.hid fun (W : World) (h : errTy W) => tokens_any ⟨#[97, 255]⟩ W (by decide) h
  rw [lex4] at k4
  have hg0 := Lib.hid hg
  clear hg
  go_enter Tryd.func16, Tryd.ntmps16
  go_wp2_with fail
  refine (k1.out _ hg0.out).mono ?_
  rintro e w1 ⟨v1, rfl, ho1, hb1⟩
  have r1 := Lib.hid (OwnK.rd ho1)
  have hg1 := Lib.hid (errTy_below hg0.out hb1)
  have hB1 := Lib.hid hb1
  clear ho1 hb1
  go_wp2_with fail
  refine (k2.out _ hg1.out).mono ?_
  rintro e w2 ⟨v2, rfl, ho2, hb2⟩
  have r2 := Lib.hid (r1.out.below hb2)
  have hg2 := Lib.hid (errTy_below hg1.out hb2)
  have hB2 := Lib.hid (belT hB1.out hb2)
  clear ho2 hb2
  go_wp2_with fail
  refine (k3.out _ hg2.out).mono ?_
  rintro e w3 ⟨v3, rfl, ho3, hb3⟩
  have r3 := Lib.hid (r2.out.below hb3)
  have hg3 := Lib.hid (errTy_below hg2.out hb3)
  have hB3 := Lib.hid (belT hB2.out hb3)
  clear ho3 hb3
  go_wp2_with fail
  refine (k4.out _ hg3.out).mono ?_
  rintro e w4 ⟨v4, rfl, ho4, hb4⟩
  have r4 := Lib.hid (r3.out.below hb4)
  have hB4 := Lib.hid (belT hB3.out hb4)
  clear ho4 hb4
  go_wp2_with fail
  refine (same_any (l := l1) _ (r4.out.below (by (repeat' (first | with_reducible exact Below.refl _ _ | with_reducible assumption | with_reducible apply Below.setCell | with_reducible apply Below.alloc | with_reducible apply Below.drew | with_reducible apply below_drewN | with_reducible exact Nat.le_refl _ | (simp; done) | (simp; omega) | omega | exact Nat.le_refl _)))) (rd_new rfl rfl) (by decide)).mono ?_
  rintro e w5 ⟨rfl, hb5⟩
  have hB5 : Below w.heap.size w w5 := belT (belT hB4.out ((Below.refl w4.heap.size w4).alloc (Nat.le_refl _) _)) hb5
  clear hb5
  go_wp2_with (first | ((go_at_call 12; refine (num_any _ _ (by omega) (by omega)).mono ?_; rintro e w' ⟨rfl, rfl⟩)) | ((go_at_call 13; first | (with_reducible refine (kw_t _).mono ?_) | (with_reducible refine (kw_f _).mono ?_)); rintro e w' ⟨rfl, rfl⟩))
  go_ret
  exact ⟨rfl, hB5⟩
end Go.Proofs.YtgpjdifjajailaaDoor
