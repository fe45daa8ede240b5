/- TargetForms: cases 0 to 14. -/
import Derived.Test.YtohgiapngmocgaaTgO
import Derived.Test.YtohgiapngmocgaaAid
import Derived.Test.YtohgiapngmocgaaRows
import Derived.WalkKit
import Derived.ProofKit
import Derived.OpenShut
import Derived.ShutString
import Derived.ChangeOld
import Derived.Below
import Derived.SizedLaws
import Derived.Carry
import Derived.Lib.SmallJoins
namespace Go.Proofs.Ytohgiapngmocgaa.targetForms
open Go.ChangeShapes Go.WideShapes Go.ChangeAt Go.RowKit
open Go.ChangeMaps (open_string shut_string)
set_option linter.unusedVariables false

theorem tgSl_set {w : World} {b q : Nat} {v : Value} {ts us : List Tg} (h : TgSl w b 0 ts) (hq : q < ts.length * 9) (hr : rowT us = (rowT ts).set q v) : TgSl (w.setCell ⟨b, q, none⟩ v) b 0 us := by
  rw [tgSl_cells] at *
  intro r u hu
  rw [hr] at hu
  have hlen : q < (rowT ts).length := by rw [rowT_len]; exact hq
  by_cases hrq : r = q
  · subst hrq
    rw [List.getElem?_set_self hlen] at hu
    simp only [Option.some.injEq] at hu
    subst hu
    have := h r _ (List.getElem?_eq_getElem hlen)
    rw [Nat.zero_add] at this ⊢
    exact World.cell?_setCell_same _ _ _ this
  · rw [List.getElem?_set_ne (Ne.symm hrq)] at hu
    have := h r u hu
    rw [Nat.zero_add] at this ⊢
    rw [World.cell?_setCell_other]
    · exact this
    · intro e; injection e with _ e2; exact hrq e2.symm
theorem bad_end {ts : List Tg} (h : mayV ts = false) : namV ts = 0 ∧ namE ts = 1900 := by unfold namV namE; rw [h]; exact ⟨rfl, rfl⟩
def ts0 : List Tg := [⟨0, 0, 0, 0, 1, 0, 0, 0, 0⟩, ⟨1, 0, 0, 0, 2, 0, 0, 0, 0⟩, ⟨8, 0, 1, 0, 5, 0, 0, 0, 0⟩, ⟨9, 2, 0, 0, 0, 0, 0, 0, 0⟩, ⟨0, 0, 0, 0, 2, 0, 0, 0, 0⟩, ⟨10, 3, 4, 0, 3, 0, 0, 0, 0⟩, ⟨4, 5, 0, 0, 0, 5, 6, 0, 0⟩]

set_option maxHeartbeats 1000000 in
set_option maxRecDepth 100000 in
theorem case0 (a0 a1 d : Int) (hd : 0 ≤ d ∧ d < 1024) (hk : bits .and .i64 a1 1023 = d) (he : (IntKind.u64.wrap a0).tmod 16 = 0) (w : World) :
    Calls Try.prog 4 #[.int .i64 a0, .int .i64 a1] w fun e w' => e = .returned (.bool true) ∧ Below w.heap.size w w' := by
  have hbad : Hid (mayV [⟨0, 0, 0, 0, -(1 + d), 0, 0, 0, 0⟩, ⟨1, 0, 0, 0, 2, 0, 0, 0, 0⟩, ⟨8, 0, 1, 0, 5, 0, 0, 0, 0⟩, ⟨9, 2, 0, 0, 0, 0, 0, 0, 0⟩, ⟨0, 0, 0, 0, 2, 0, 0, 0, 0⟩, ⟨10, 3, 4, 0, 3, 0, 0, 0, 0⟩, ⟨4, 5, 0, 0, 0, 5, 6, 0, 0⟩] = false) := Lib.hid (mayV_node _ 0 (by simp) (by simp [okT, plainT, numT, okNames, namesT, nameT]; try omega))
  go_enter Try.func4, Try.ntmps4
  go_wp2_with fail
  refine (awake_any _).mono ?_
  rintro e w1 ⟨rfl, hb1⟩
  go_wp2_with fail
  have hsl0 := lit_sl w1 ts0 34 w1.heap.size rfl rfl
  refine (may_any w1.heap.size 0 7 ts0 _ (Lib.hid hsl0) (by simp) (by decide)).mono ?_
  rintro e w2 ⟨rfl, hb2⟩
  rw [show mayV ts0 = true from by decide +kernel]
  obtain ⟨hc2, hf2⟩ := bcell hb2
  have hg2 : w1.heap.size < w2.heap.size := by have := hb2.size; (try simp at this); omega
  have hsl2 := hsl0.below hb2 (by simp)
  clear hsl0
  have hsl' : Hid (TgSl (w2.setCell ⟨w1.heap.size, 4, none⟩ (.int .i64 (-(1 + d)))) w1.heap.size 0 [⟨0, 0, 0, 0, -(1 + d), 0, 0, 0, 0⟩, ⟨1, 0, 0, 0, 2, 0, 0, 0, 0⟩, ⟨8, 0, 1, 0, 5, 0, 0, 0, 0⟩, ⟨9, 2, 0, 0, 0, 0, 0, 0, 0⟩, ⟨0, 0, 0, 0, 2, 0, 0, 0, 0⟩, ⟨10, 3, 4, 0, 3, 0, 0, 0, 0⟩, ⟨4, 5, 0, 0, 0, 5, 6, 0, 0⟩]) := Lib.hid (tgSl_set hsl2 (by decide) rfl)
  clear hsl2
  have hg2' : w1.heap.size < (w2.setCell ⟨w1.heap.size, 4, none⟩ (.int .i64 (-(1 + d)))).heap.size := by simp; omega
  go_wp2_with fail
  refine (Names_any w1.heap.size 0 7 [⟨0, 0, 0, 0, -(1 + d), 0, 0, 0, 0⟩, ⟨1, 0, 0, 0, 2, 0, 0, 0, 0⟩, ⟨8, 0, 1, 0, 5, 0, 0, 0, 0⟩, ⟨9, 2, 0, 0, 0, 0, 0, 0, 0⟩, ⟨0, 0, 0, 0, 2, 0, 0, 0, 0⟩, ⟨10, 3, 4, 0, 3, 0, 0, 0, 0⟩, ⟨4, 5, 0, 0, 0, 5, 6, 0, 0⟩] _ hsl' hg2' (by simp)).mono ?_
  rintro e w3 ⟨rfl, hb3⟩
  rw [(bad_end hbad.out).1, (bad_end hbad.out).2]
  have hg3 : w1.heap.size < w3.heap.size := by have := hb3.size; (try simp at this); omega
  have hsl3 := Lib.hid (hsl'.out.below hb3 hg2')
  go_wp2_with fail
  refine (may_any w1.heap.size 0 7 [⟨0, 0, 0, 0, -(1 + d), 0, 0, 0, 0⟩, ⟨1, 0, 0, 0, 2, 0, 0, 0, 0⟩, ⟨8, 0, 1, 0, 5, 0, 0, 0, 0⟩, ⟨9, 2, 0, 0, 0, 0, 0, 0, 0⟩, ⟨0, 0, 0, 0, 2, 0, 0, 0, 0⟩, ⟨10, 3, 4, 0, 3, 0, 0, 0, 0⟩, ⟨4, 5, 0, 0, 0, 5, 6, 0, 0⟩] _ hsl3 hg3 (by simp)).mono ?_
  rintro e w4 ⟨rfl, hb4⟩
  rw [hbad.out]
  go_wp2_with (go_at_call 9; refine (num_any _ _ (by omega) (by omega)).mono ?_; rintro e w' ⟨rfl, rfl⟩)
  go_ret
  have hb12 := belT hb1 (belT (by (repeat' (first | with_reducible exact Below.refl _ _ | with_reducible assumption | with_reducible apply Below.setCell | with_reducible apply Below.alloc | with_reducible apply Below.drew | with_reducible apply below_drewN | exact Nat.le_refl _ | (simp; done) | (simp; omega)))) hb2)
  have hb13 := belT (Below.setCell hb12 (p := ⟨w1.heap.size, 4, none⟩) (by have := hb1.size; simpa using this) (.int .i64 (-(1 + d)))) hb3
  exact ⟨rfl, belT hb13 hb4⟩

set_option maxHeartbeats 1000000 in
set_option maxRecDepth 100000 in
theorem case1 (a0 a1 d : Int) (hd : 0 ≤ d ∧ d < 1024) (hk : bits .and .i64 a1 1023 = d) (he : (IntKind.u64.wrap a0).tmod 16 = 1) (w : World) :
    Calls Try.prog 4 #[.int .i64 a0, .int .i64 a1] w fun e w' => e = .returned (.bool true) ∧ Below w.heap.size w w' := by
  have hbad : Hid (mayV [⟨0, 0, 0, 0, 8191 + (1 + d), 0, 0, 0, 0⟩, ⟨1, 0, 0, 0, 2, 0, 0, 0, 0⟩, ⟨8, 0, 1, 0, 5, 0, 0, 0, 0⟩, ⟨9, 2, 0, 0, 0, 0, 0, 0, 0⟩, ⟨0, 0, 0, 0, 2, 0, 0, 0, 0⟩, ⟨10, 3, 4, 0, 3, 0, 0, 0, 0⟩, ⟨4, 5, 0, 0, 0, 5, 6, 0, 0⟩] = false) := Lib.hid (mayV_node _ 0 (by simp) (by simp [okT, plainT, numT, okNames, namesT, nameT]; try omega))
  go_enter Try.func4, Try.ntmps4
  go_wp2_with fail
  refine (awake_any _).mono ?_
  rintro e w1 ⟨rfl, hb1⟩
  go_wp2_with fail
  have hsl0 := lit_sl w1 ts0 34 w1.heap.size rfl rfl
  refine (may_any w1.heap.size 0 7 ts0 _ (Lib.hid hsl0) (by simp) (by decide)).mono ?_
  rintro e w2 ⟨rfl, hb2⟩
  rw [show mayV ts0 = true from by decide +kernel]
  obtain ⟨hc2, hf2⟩ := bcell hb2
  have hg2 : w1.heap.size < w2.heap.size := by have := hb2.size; (try simp at this); omega
  have hsl2 := hsl0.below hb2 (by simp)
  clear hsl0
  have hsl' : Hid (TgSl (w2.setCell ⟨w1.heap.size, 4, none⟩ (.int .i64 (8191 + (1 + d)))) w1.heap.size 0 [⟨0, 0, 0, 0, 8191 + (1 + d), 0, 0, 0, 0⟩, ⟨1, 0, 0, 0, 2, 0, 0, 0, 0⟩, ⟨8, 0, 1, 0, 5, 0, 0, 0, 0⟩, ⟨9, 2, 0, 0, 0, 0, 0, 0, 0⟩, ⟨0, 0, 0, 0, 2, 0, 0, 0, 0⟩, ⟨10, 3, 4, 0, 3, 0, 0, 0, 0⟩, ⟨4, 5, 0, 0, 0, 5, 6, 0, 0⟩]) := Lib.hid (tgSl_set hsl2 (by decide) rfl)
  clear hsl2
  have hg2' : w1.heap.size < (w2.setCell ⟨w1.heap.size, 4, none⟩ (.int .i64 (8191 + (1 + d)))).heap.size := by simp; omega
  go_wp2_with fail
  refine (Names_any w1.heap.size 0 7 [⟨0, 0, 0, 0, 8191 + (1 + d), 0, 0, 0, 0⟩, ⟨1, 0, 0, 0, 2, 0, 0, 0, 0⟩, ⟨8, 0, 1, 0, 5, 0, 0, 0, 0⟩, ⟨9, 2, 0, 0, 0, 0, 0, 0, 0⟩, ⟨0, 0, 0, 0, 2, 0, 0, 0, 0⟩, ⟨10, 3, 4, 0, 3, 0, 0, 0, 0⟩, ⟨4, 5, 0, 0, 0, 5, 6, 0, 0⟩] _ hsl' hg2' (by simp)).mono ?_
  rintro e w3 ⟨rfl, hb3⟩
  rw [(bad_end hbad.out).1, (bad_end hbad.out).2]
  have hg3 : w1.heap.size < w3.heap.size := by have := hb3.size; (try simp at this); omega
  have hsl3 := Lib.hid (hsl'.out.below hb3 hg2')
  go_wp2_with fail
  refine (may_any w1.heap.size 0 7 [⟨0, 0, 0, 0, 8191 + (1 + d), 0, 0, 0, 0⟩, ⟨1, 0, 0, 0, 2, 0, 0, 0, 0⟩, ⟨8, 0, 1, 0, 5, 0, 0, 0, 0⟩, ⟨9, 2, 0, 0, 0, 0, 0, 0, 0⟩, ⟨0, 0, 0, 0, 2, 0, 0, 0, 0⟩, ⟨10, 3, 4, 0, 3, 0, 0, 0, 0⟩, ⟨4, 5, 0, 0, 0, 5, 6, 0, 0⟩] _ hsl3 hg3 (by simp)).mono ?_
  rintro e w4 ⟨rfl, hb4⟩
  rw [hbad.out]
  go_wp2_with (go_at_call 9; refine (num_any _ _ (by omega) (by omega)).mono ?_; rintro e w' ⟨rfl, rfl⟩)
  go_ret
  have hb12 := belT hb1 (belT (by (repeat' (first | with_reducible exact Below.refl _ _ | with_reducible assumption | with_reducible apply Below.setCell | with_reducible apply Below.alloc | with_reducible apply Below.drew | with_reducible apply below_drewN | exact Nat.le_refl _ | (simp; done) | (simp; omega)))) hb2)
  have hb13 := belT (Below.setCell hb12 (p := ⟨w1.heap.size, 4, none⟩) (by have := hb1.size; simpa using this) (.int .i64 (8191 + (1 + d)))) hb3
  exact ⟨rfl, belT hb13 hb4⟩

set_option maxHeartbeats 1000000 in
set_option maxRecDepth 100000 in
theorem case2 (a0 a1 d : Int) (hd : 0 ≤ d ∧ d < 1024) (hk : bits .and .i64 a1 1023 = d) (he : (IntKind.u64.wrap a0).tmod 16 = 2) (w : World) :
    Calls Try.prog 4 #[.int .i64 a0, .int .i64 a1] w fun e w' => e = .returned (.bool true) ∧ Below w.heap.size w w' := by
  have hbad : Hid (mayV [⟨0, 0, 0, 0, 1, 0, 0, 0, 0⟩, ⟨1, 0, 0, 0, 1073741823 + (1 + d), 0, 0, 0, 0⟩, ⟨8, 0, 1, 0, 5, 0, 0, 0, 0⟩, ⟨9, 2, 0, 0, 0, 0, 0, 0, 0⟩, ⟨0, 0, 0, 0, 2, 0, 0, 0, 0⟩, ⟨10, 3, 4, 0, 3, 0, 0, 0, 0⟩, ⟨4, 5, 0, 0, 0, 5, 6, 0, 0⟩] = false) := Lib.hid (mayV_node _ 1 (by simp) (by simp [okT, plainT, numT, okNames, namesT, nameT]; try omega))
  go_enter Try.func4, Try.ntmps4
  go_wp2_with fail
  refine (awake_any _).mono ?_
  rintro e w1 ⟨rfl, hb1⟩
  go_wp2_with fail
  have hsl0 := lit_sl w1 ts0 34 w1.heap.size rfl rfl
  refine (may_any w1.heap.size 0 7 ts0 _ (Lib.hid hsl0) (by simp) (by decide)).mono ?_
  rintro e w2 ⟨rfl, hb2⟩
  rw [show mayV ts0 = true from by decide +kernel]
  obtain ⟨hc2, hf2⟩ := bcell hb2
  have hg2 : w1.heap.size < w2.heap.size := by have := hb2.size; (try simp at this); omega
  have hsl2 := hsl0.below hb2 (by simp)
  clear hsl0
  have hsl' : Hid (TgSl (w2.setCell ⟨w1.heap.size, 13, none⟩ (.int .i64 (1073741823 + (1 + d)))) w1.heap.size 0 [⟨0, 0, 0, 0, 1, 0, 0, 0, 0⟩, ⟨1, 0, 0, 0, 1073741823 + (1 + d), 0, 0, 0, 0⟩, ⟨8, 0, 1, 0, 5, 0, 0, 0, 0⟩, ⟨9, 2, 0, 0, 0, 0, 0, 0, 0⟩, ⟨0, 0, 0, 0, 2, 0, 0, 0, 0⟩, ⟨10, 3, 4, 0, 3, 0, 0, 0, 0⟩, ⟨4, 5, 0, 0, 0, 5, 6, 0, 0⟩]) := Lib.hid (tgSl_set hsl2 (by decide) rfl)
  clear hsl2
  have hg2' : w1.heap.size < (w2.setCell ⟨w1.heap.size, 13, none⟩ (.int .i64 (1073741823 + (1 + d)))).heap.size := by simp; omega
  go_wp2_with fail
  refine (Names_any w1.heap.size 0 7 [⟨0, 0, 0, 0, 1, 0, 0, 0, 0⟩, ⟨1, 0, 0, 0, 1073741823 + (1 + d), 0, 0, 0, 0⟩, ⟨8, 0, 1, 0, 5, 0, 0, 0, 0⟩, ⟨9, 2, 0, 0, 0, 0, 0, 0, 0⟩, ⟨0, 0, 0, 0, 2, 0, 0, 0, 0⟩, ⟨10, 3, 4, 0, 3, 0, 0, 0, 0⟩, ⟨4, 5, 0, 0, 0, 5, 6, 0, 0⟩] _ hsl' hg2' (by simp)).mono ?_
  rintro e w3 ⟨rfl, hb3⟩
  rw [(bad_end hbad.out).1, (bad_end hbad.out).2]
  have hg3 : w1.heap.size < w3.heap.size := by have := hb3.size; (try simp at this); omega
  have hsl3 := Lib.hid (hsl'.out.below hb3 hg2')
  go_wp2_with fail
  refine (may_any w1.heap.size 0 7 [⟨0, 0, 0, 0, 1, 0, 0, 0, 0⟩, ⟨1, 0, 0, 0, 1073741823 + (1 + d), 0, 0, 0, 0⟩, ⟨8, 0, 1, 0, 5, 0, 0, 0, 0⟩, ⟨9, 2, 0, 0, 0, 0, 0, 0, 0⟩, ⟨0, 0, 0, 0, 2, 0, 0, 0, 0⟩, ⟨10, 3, 4, 0, 3, 0, 0, 0, 0⟩, ⟨4, 5, 0, 0, 0, 5, 6, 0, 0⟩] _ hsl3 hg3 (by simp)).mono ?_
  rintro e w4 ⟨rfl, hb4⟩
  rw [hbad.out]
  go_wp2_with (go_at_call 9; refine (num_any _ _ (by omega) (by omega)).mono ?_; rintro e w' ⟨rfl, rfl⟩)
  go_ret
  have hb12 := belT hb1 (belT (by (repeat' (first | with_reducible exact Below.refl _ _ | with_reducible assumption | with_reducible apply Below.setCell | with_reducible apply Below.alloc | with_reducible apply Below.drew | with_reducible apply below_drewN | exact Nat.le_refl _ | (simp; done) | (simp; omega)))) hb2)
  have hb13 := belT (Below.setCell hb12 (p := ⟨w1.heap.size, 13, none⟩) (by have := hb1.size; simpa using this) (.int .i64 (1073741823 + (1 + d)))) hb3
  exact ⟨rfl, belT hb13 hb4⟩

set_option maxHeartbeats 1000000 in
set_option maxRecDepth 100000 in
theorem case3 (a0 a1 d : Int) (hd : 0 ≤ d ∧ d < 1024) (hk : bits .and .i64 a1 1023 = d) (he : (IntKind.u64.wrap a0).tmod 16 = 3) (w : World) :
    Calls Try.prog 4 #[.int .i64 a0, .int .i64 a1] w fun e w' => e = .returned (.bool true) ∧ Below w.heap.size w w' := by
  have hbad : Hid (mayV [⟨0, 0, 0, 0, 1, 0, 0, 0, 0⟩, ⟨1, 0, 0, 0, 2, 1 + d, 0, 0, 0⟩, ⟨8, 0, 1, 0, 5, 0, 0, 0, 0⟩, ⟨9, 2, 0, 0, 0, 0, 0, 0, 0⟩, ⟨0, 0, 0, 0, 2, 0, 0, 0, 0⟩, ⟨10, 3, 4, 0, 3, 0, 0, 0, 0⟩, ⟨4, 5, 0, 0, 0, 5, 6, 0, 0⟩] = false) := Lib.hid (mayV_node _ 1 (by simp) (by simp [okT, plainT, numT, okNames, namesT, nameT]; try omega))
  go_enter Try.func4, Try.ntmps4
  go_wp2_with fail
  refine (awake_any _).mono ?_
  rintro e w1 ⟨rfl, hb1⟩
  go_wp2_with fail
  have hsl0 := lit_sl w1 ts0 34 w1.heap.size rfl rfl
  refine (may_any w1.heap.size 0 7 ts0 _ (Lib.hid hsl0) (by simp) (by decide)).mono ?_
  rintro e w2 ⟨rfl, hb2⟩
  rw [show mayV ts0 = true from by decide +kernel]
  obtain ⟨hc2, hf2⟩ := bcell hb2
  have hg2 : w1.heap.size < w2.heap.size := by have := hb2.size; (try simp at this); omega
  have hsl2 := hsl0.below hb2 (by simp)
  clear hsl0
  have hsl' : Hid (TgSl (w2.setCell ⟨w1.heap.size, 14, none⟩ (.int .i64 (1 + d))) w1.heap.size 0 [⟨0, 0, 0, 0, 1, 0, 0, 0, 0⟩, ⟨1, 0, 0, 0, 2, 1 + d, 0, 0, 0⟩, ⟨8, 0, 1, 0, 5, 0, 0, 0, 0⟩, ⟨9, 2, 0, 0, 0, 0, 0, 0, 0⟩, ⟨0, 0, 0, 0, 2, 0, 0, 0, 0⟩, ⟨10, 3, 4, 0, 3, 0, 0, 0, 0⟩, ⟨4, 5, 0, 0, 0, 5, 6, 0, 0⟩]) := Lib.hid (tgSl_set hsl2 (by decide) rfl)
  clear hsl2
  have hg2' : w1.heap.size < (w2.setCell ⟨w1.heap.size, 14, none⟩ (.int .i64 (1 + d))).heap.size := by simp; omega
  go_wp2_with fail
  refine (Names_any w1.heap.size 0 7 [⟨0, 0, 0, 0, 1, 0, 0, 0, 0⟩, ⟨1, 0, 0, 0, 2, 1 + d, 0, 0, 0⟩, ⟨8, 0, 1, 0, 5, 0, 0, 0, 0⟩, ⟨9, 2, 0, 0, 0, 0, 0, 0, 0⟩, ⟨0, 0, 0, 0, 2, 0, 0, 0, 0⟩, ⟨10, 3, 4, 0, 3, 0, 0, 0, 0⟩, ⟨4, 5, 0, 0, 0, 5, 6, 0, 0⟩] _ hsl' hg2' (by simp)).mono ?_
  rintro e w3 ⟨rfl, hb3⟩
  rw [(bad_end hbad.out).1, (bad_end hbad.out).2]
  have hg3 : w1.heap.size < w3.heap.size := by have := hb3.size; (try simp at this); omega
  have hsl3 := Lib.hid (hsl'.out.below hb3 hg2')
  go_wp2_with fail
  refine (may_any w1.heap.size 0 7 [⟨0, 0, 0, 0, 1, 0, 0, 0, 0⟩, ⟨1, 0, 0, 0, 2, 1 + d, 0, 0, 0⟩, ⟨8, 0, 1, 0, 5, 0, 0, 0, 0⟩, ⟨9, 2, 0, 0, 0, 0, 0, 0, 0⟩, ⟨0, 0, 0, 0, 2, 0, 0, 0, 0⟩, ⟨10, 3, 4, 0, 3, 0, 0, 0, 0⟩, ⟨4, 5, 0, 0, 0, 5, 6, 0, 0⟩] _ hsl3 hg3 (by simp)).mono ?_
  rintro e w4 ⟨rfl, hb4⟩
  rw [hbad.out]
  go_wp2_with (go_at_call 9; refine (num_any _ _ (by omega) (by omega)).mono ?_; rintro e w' ⟨rfl, rfl⟩)
  go_ret
  have hb12 := belT hb1 (belT (by (repeat' (first | with_reducible exact Below.refl _ _ | with_reducible assumption | with_reducible apply Below.setCell | with_reducible apply Below.alloc | with_reducible apply Below.drew | with_reducible apply below_drewN | exact Nat.le_refl _ | (simp; done) | (simp; omega)))) hb2)
  have hb13 := belT (Below.setCell hb12 (p := ⟨w1.heap.size, 14, none⟩) (by have := hb1.size; simpa using this) (.int .i64 (1 + d))) hb3
  exact ⟨rfl, belT hb13 hb4⟩

set_option maxHeartbeats 1000000 in
set_option maxRecDepth 100000 in
theorem case4 (a0 a1 d : Int) (hd : 0 ≤ d ∧ d < 1024) (hk : bits .and .i64 a1 1023 = d) (he : (IntKind.u64.wrap a0).tmod 16 = 4) (w : World) :
    Calls Try.prog 4 #[.int .i64 a0, .int .i64 a1] w fun e w' => e = .returned (.bool true) ∧ Below w.heap.size w w' := by
  have hbad : Hid (mayV [⟨0, 0, 0, 0, 1, 0, 0, 0, 0⟩, ⟨1, 0, 0, 0, 2, 0, 0, 0, 0⟩, ⟨8, 0, 1, 0, 5 + (1 + d), 0, 0, 0, 0⟩, ⟨9, 2, 0, 0, 0, 0, 0, 0, 0⟩, ⟨0, 0, 0, 0, 2, 0, 0, 0, 0⟩, ⟨10, 3, 4, 0, 3, 0, 0, 0, 0⟩, ⟨4, 5, 0, 0, 0, 5, 6, 0, 0⟩] = false) := Lib.hid (mayV_node _ 2 (by simp) (by simp [okT, plainT, numT, okNames, namesT, nameT]; try omega))
  go_enter Try.func4, Try.ntmps4
  go_wp2_with fail
  refine (awake_any _).mono ?_
  rintro e w1 ⟨rfl, hb1⟩
  go_wp2_with fail
  have hsl0 := lit_sl w1 ts0 34 w1.heap.size rfl rfl
  refine (may_any w1.heap.size 0 7 ts0 _ (Lib.hid hsl0) (by simp) (by decide)).mono ?_
  rintro e w2 ⟨rfl, hb2⟩
  rw [show mayV ts0 = true from by decide +kernel]
  obtain ⟨hc2, hf2⟩ := bcell hb2
  have hg2 : w1.heap.size < w2.heap.size := by have := hb2.size; (try simp at this); omega
  have hsl2 := hsl0.below hb2 (by simp)
  clear hsl0
  have hsl' : Hid (TgSl (w2.setCell ⟨w1.heap.size, 22, none⟩ (.int .i64 (5 + (1 + d)))) w1.heap.size 0 [⟨0, 0, 0, 0, 1, 0, 0, 0, 0⟩, ⟨1, 0, 0, 0, 2, 0, 0, 0, 0⟩, ⟨8, 0, 1, 0, 5 + (1 + d), 0, 0, 0, 0⟩, ⟨9, 2, 0, 0, 0, 0, 0, 0, 0⟩, ⟨0, 0, 0, 0, 2, 0, 0, 0, 0⟩, ⟨10, 3, 4, 0, 3, 0, 0, 0, 0⟩, ⟨4, 5, 0, 0, 0, 5, 6, 0, 0⟩]) := Lib.hid (tgSl_set hsl2 (by decide) rfl)
  clear hsl2
  have hg2' : w1.heap.size < (w2.setCell ⟨w1.heap.size, 22, none⟩ (.int .i64 (5 + (1 + d)))).heap.size := by simp; omega
  go_wp2_with fail
  refine (Names_any w1.heap.size 0 7 [⟨0, 0, 0, 0, 1, 0, 0, 0, 0⟩, ⟨1, 0, 0, 0, 2, 0, 0, 0, 0⟩, ⟨8, 0, 1, 0, 5 + (1 + d), 0, 0, 0, 0⟩, ⟨9, 2, 0, 0, 0, 0, 0, 0, 0⟩, ⟨0, 0, 0, 0, 2, 0, 0, 0, 0⟩, ⟨10, 3, 4, 0, 3, 0, 0, 0, 0⟩, ⟨4, 5, 0, 0, 0, 5, 6, 0, 0⟩] _ hsl' hg2' (by simp)).mono ?_
  rintro e w3 ⟨rfl, hb3⟩
  rw [(bad_end hbad.out).1, (bad_end hbad.out).2]
  have hg3 : w1.heap.size < w3.heap.size := by have := hb3.size; (try simp at this); omega
  have hsl3 := Lib.hid (hsl'.out.below hb3 hg2')
  go_wp2_with fail
  refine (may_any w1.heap.size 0 7 [⟨0, 0, 0, 0, 1, 0, 0, 0, 0⟩, ⟨1, 0, 0, 0, 2, 0, 0, 0, 0⟩, ⟨8, 0, 1, 0, 5 + (1 + d), 0, 0, 0, 0⟩, ⟨9, 2, 0, 0, 0, 0, 0, 0, 0⟩, ⟨0, 0, 0, 0, 2, 0, 0, 0, 0⟩, ⟨10, 3, 4, 0, 3, 0, 0, 0, 0⟩, ⟨4, 5, 0, 0, 0, 5, 6, 0, 0⟩] _ hsl3 hg3 (by simp)).mono ?_
  rintro e w4 ⟨rfl, hb4⟩
  rw [hbad.out]
  go_wp2_with (go_at_call 9; refine (num_any _ _ (by omega) (by omega)).mono ?_; rintro e w' ⟨rfl, rfl⟩)
  go_ret
  have hb12 := belT hb1 (belT (by (repeat' (first | with_reducible exact Below.refl _ _ | with_reducible assumption | with_reducible apply Below.setCell | with_reducible apply Below.alloc | with_reducible apply Below.drew | with_reducible apply below_drewN | exact Nat.le_refl _ | (simp; done) | (simp; omega)))) hb2)
  have hb13 := belT (Below.setCell hb12 (p := ⟨w1.heap.size, 22, none⟩) (by have := hb1.size; simpa using this) (.int .i64 (5 + (1 + d)))) hb3
  exact ⟨rfl, belT hb13 hb4⟩

set_option maxHeartbeats 1000000 in
set_option maxRecDepth 100000 in
theorem case5 (a0 a1 d : Int) (hd : 0 ≤ d ∧ d < 1024) (hk : bits .and .i64 a1 1023 = d) (he : (IntKind.u64.wrap a0).tmod 16 = 5) (w : World) :
    Calls Try.prog 4 #[.int .i64 a0, .int .i64 a1] w fun e w' => e = .returned (.bool true) ∧ Below w.heap.size w w' := by
  have hbad : Hid (mayV [⟨0, 0, 0, 0, 1, 0, 0, 0, 0⟩, ⟨1, 0, 0, 0, 2, 0, 0, 0, 0⟩, ⟨8, 1, 1, 0, 5, 0, 0, 0, 0⟩, ⟨9, 2, 0, 0, 0, 0, 0, 0, 0⟩, ⟨0, 0, 0, 0, 2, 0, 0, 0, 0⟩, ⟨10, 3, 4, 0, 3, 0, 0, 0, 0⟩, ⟨4, 5, 0, 0, 0, 5, 6, 0, 0⟩] = false) := Lib.hid (by decide +kernel)
  go_enter Try.func4, Try.ntmps4
  go_wp2_with fail
  refine (awake_any _).mono ?_
  rintro e w1 ⟨rfl, hb1⟩
  go_wp2_with fail
  have hsl0 := lit_sl w1 ts0 34 w1.heap.size rfl rfl
  refine (may_any w1.heap.size 0 7 ts0 _ (Lib.hid hsl0) (by simp) (by decide)).mono ?_
  rintro e w2 ⟨rfl, hb2⟩
  rw [show mayV ts0 = true from by decide +kernel]
  obtain ⟨hc2, hf2⟩ := bcell hb2
  have hg2 : w1.heap.size < w2.heap.size := by have := hb2.size; (try simp at this); omega
  have hsl2 := hsl0.below hb2 (by simp)
  clear hsl0
  have hsl' : Hid (TgSl (w2.setCell ⟨w1.heap.size, 19, none⟩ (.int .i64 (1))) w1.heap.size 0 [⟨0, 0, 0, 0, 1, 0, 0, 0, 0⟩, ⟨1, 0, 0, 0, 2, 0, 0, 0, 0⟩, ⟨8, 1, 1, 0, 5, 0, 0, 0, 0⟩, ⟨9, 2, 0, 0, 0, 0, 0, 0, 0⟩, ⟨0, 0, 0, 0, 2, 0, 0, 0, 0⟩, ⟨10, 3, 4, 0, 3, 0, 0, 0, 0⟩, ⟨4, 5, 0, 0, 0, 5, 6, 0, 0⟩]) := Lib.hid (tgSl_set hsl2 (by decide) rfl)
  clear hsl2
  have hg2' : w1.heap.size < (w2.setCell ⟨w1.heap.size, 19, none⟩ (.int .i64 (1))).heap.size := by simp; omega
  go_wp2_with fail
  refine (Names_any w1.heap.size 0 7 [⟨0, 0, 0, 0, 1, 0, 0, 0, 0⟩, ⟨1, 0, 0, 0, 2, 0, 0, 0, 0⟩, ⟨8, 1, 1, 0, 5, 0, 0, 0, 0⟩, ⟨9, 2, 0, 0, 0, 0, 0, 0, 0⟩, ⟨0, 0, 0, 0, 2, 0, 0, 0, 0⟩, ⟨10, 3, 4, 0, 3, 0, 0, 0, 0⟩, ⟨4, 5, 0, 0, 0, 5, 6, 0, 0⟩] _ hsl' hg2' (by simp)).mono ?_
  rintro e w3 ⟨rfl, hb3⟩
  rw [(bad_end hbad.out).1, (bad_end hbad.out).2]
  have hg3 : w1.heap.size < w3.heap.size := by have := hb3.size; (try simp at this); omega
  have hsl3 := Lib.hid (hsl'.out.below hb3 hg2')
  go_wp2_with fail
  refine (may_any w1.heap.size 0 7 [⟨0, 0, 0, 0, 1, 0, 0, 0, 0⟩, ⟨1, 0, 0, 0, 2, 0, 0, 0, 0⟩, ⟨8, 1, 1, 0, 5, 0, 0, 0, 0⟩, ⟨9, 2, 0, 0, 0, 0, 0, 0, 0⟩, ⟨0, 0, 0, 0, 2, 0, 0, 0, 0⟩, ⟨10, 3, 4, 0, 3, 0, 0, 0, 0⟩, ⟨4, 5, 0, 0, 0, 5, 6, 0, 0⟩] _ hsl3 hg3 (by simp)).mono ?_
  rintro e w4 ⟨rfl, hb4⟩
  rw [hbad.out]
  go_wp2_with (go_at_call 9; refine (num_any _ _ (by omega) (by omega)).mono ?_; rintro e w' ⟨rfl, rfl⟩)
  go_ret
  have hb12 := belT hb1 (belT (by (repeat' (first | with_reducible exact Below.refl _ _ | with_reducible assumption | with_reducible apply Below.setCell | with_reducible apply Below.alloc | with_reducible apply Below.drew | with_reducible apply below_drewN | exact Nat.le_refl _ | (simp; done) | (simp; omega)))) hb2)
  have hb13 := belT (Below.setCell hb12 (p := ⟨w1.heap.size, 19, none⟩) (by have := hb1.size; simpa using this) (.int .i64 (1))) hb3
  exact ⟨rfl, belT hb13 hb4⟩

set_option maxHeartbeats 1000000 in
set_option maxRecDepth 100000 in
theorem case6 (a0 a1 d : Int) (hd : 0 ≤ d ∧ d < 1024) (hk : bits .and .i64 a1 1023 = d) (he : (IntKind.u64.wrap a0).tmod 16 = 6) (w : World) :
    Calls Try.prog 4 #[.int .i64 a0, .int .i64 a1] w fun e w' => e = .returned (.bool true) ∧ Below w.heap.size w w' := by
  have hbad : Hid (mayV [⟨0, 0, 0, 0, 1, 0, 0, 0, 0⟩, ⟨1, 0, 0, 0, 2, 0, 0, 0, 0⟩, ⟨8, 0, 1, 0, 5, 0, 0, 0, 0⟩, ⟨9, 1, 0, 0, 0, 0, 0, 0, 0⟩, ⟨0, 0, 0, 0, 2, 0, 0, 0, 0⟩, ⟨10, 3, 4, 0, 3, 0, 0, 0, 0⟩, ⟨4, 5, 0, 0, 0, 5, 6, 0, 0⟩] = false) := Lib.hid (by decide +kernel)
  go_enter Try.func4, Try.ntmps4
  go_wp2_with fail
  refine (awake_any _).mono ?_
  rintro e w1 ⟨rfl, hb1⟩
  go_wp2_with fail
  have hsl0 := lit_sl w1 ts0 34 w1.heap.size rfl rfl
  refine (may_any w1.heap.size 0 7 ts0 _ (Lib.hid hsl0) (by simp) (by decide)).mono ?_
  rintro e w2 ⟨rfl, hb2⟩
  rw [show mayV ts0 = true from by decide +kernel]
  obtain ⟨hc2, hf2⟩ := bcell hb2
  have hg2 : w1.heap.size < w2.heap.size := by have := hb2.size; (try simp at this); omega
  have hsl2 := hsl0.below hb2 (by simp)
  clear hsl0
  have hsl' : Hid (TgSl (w2.setCell ⟨w1.heap.size, 28, none⟩ (.int .i64 (1))) w1.heap.size 0 [⟨0, 0, 0, 0, 1, 0, 0, 0, 0⟩, ⟨1, 0, 0, 0, 2, 0, 0, 0, 0⟩, ⟨8, 0, 1, 0, 5, 0, 0, 0, 0⟩, ⟨9, 1, 0, 0, 0, 0, 0, 0, 0⟩, ⟨0, 0, 0, 0, 2, 0, 0, 0, 0⟩, ⟨10, 3, 4, 0, 3, 0, 0, 0, 0⟩, ⟨4, 5, 0, 0, 0, 5, 6, 0, 0⟩]) := Lib.hid (tgSl_set hsl2 (by decide) rfl)
  clear hsl2
  have hg2' : w1.heap.size < (w2.setCell ⟨w1.heap.size, 28, none⟩ (.int .i64 (1))).heap.size := by simp; omega
  go_wp2_with fail
  refine (Names_any w1.heap.size 0 7 [⟨0, 0, 0, 0, 1, 0, 0, 0, 0⟩, ⟨1, 0, 0, 0, 2, 0, 0, 0, 0⟩, ⟨8, 0, 1, 0, 5, 0, 0, 0, 0⟩, ⟨9, 1, 0, 0, 0, 0, 0, 0, 0⟩, ⟨0, 0, 0, 0, 2, 0, 0, 0, 0⟩, ⟨10, 3, 4, 0, 3, 0, 0, 0, 0⟩, ⟨4, 5, 0, 0, 0, 5, 6, 0, 0⟩] _ hsl' hg2' (by simp)).mono ?_
  rintro e w3 ⟨rfl, hb3⟩
  rw [(bad_end hbad.out).1, (bad_end hbad.out).2]
  have hg3 : w1.heap.size < w3.heap.size := by have := hb3.size; (try simp at this); omega
  have hsl3 := Lib.hid (hsl'.out.below hb3 hg2')
  go_wp2_with fail
  refine (may_any w1.heap.size 0 7 [⟨0, 0, 0, 0, 1, 0, 0, 0, 0⟩, ⟨1, 0, 0, 0, 2, 0, 0, 0, 0⟩, ⟨8, 0, 1, 0, 5, 0, 0, 0, 0⟩, ⟨9, 1, 0, 0, 0, 0, 0, 0, 0⟩, ⟨0, 0, 0, 0, 2, 0, 0, 0, 0⟩, ⟨10, 3, 4, 0, 3, 0, 0, 0, 0⟩, ⟨4, 5, 0, 0, 0, 5, 6, 0, 0⟩] _ hsl3 hg3 (by simp)).mono ?_
  rintro e w4 ⟨rfl, hb4⟩
  rw [hbad.out]
  go_wp2_with (go_at_call 9; refine (num_any _ _ (by omega) (by omega)).mono ?_; rintro e w' ⟨rfl, rfl⟩)
  go_ret
  have hb12 := belT hb1 (belT (by (repeat' (first | with_reducible exact Below.refl _ _ | with_reducible assumption | with_reducible apply Below.setCell | with_reducible apply Below.alloc | with_reducible apply Below.drew | with_reducible apply below_drewN | exact Nat.le_refl _ | (simp; done) | (simp; omega)))) hb2)
  have hb13 := belT (Below.setCell hb12 (p := ⟨w1.heap.size, 28, none⟩) (by have := hb1.size; simpa using this) (.int .i64 (1))) hb3
  exact ⟨rfl, belT hb13 hb4⟩

set_option maxHeartbeats 1000000 in
set_option maxRecDepth 100000 in
theorem case7 (a0 a1 d : Int) (hd : 0 ≤ d ∧ d < 1024) (hk : bits .and .i64 a1 1023 = d) (he : (IntKind.u64.wrap a0).tmod 16 = 7) (w : World) :
    Calls Try.prog 4 #[.int .i64 a0, .int .i64 a1] w fun e w' => e = .returned (.bool true) ∧ Below w.heap.size w w' := by
  have hbad : Hid (mayV [⟨0, 0, 0, 0, 1, 0, 0, 0, 0⟩, ⟨1, 0, 0, 0, 2, 0, 0, 0, 0⟩, ⟨8, 0, 1, 0, 5, 0, 0, 0, 0⟩, ⟨9, 2, 1 + d, 0, 0, 0, 0, 0, 0⟩, ⟨0, 0, 0, 0, 2, 0, 0, 0, 0⟩, ⟨10, 3, 4, 0, 3, 0, 0, 0, 0⟩, ⟨4, 5, 0, 0, 0, 5, 6, 0, 0⟩] = false) := Lib.hid (mayV_node _ 3 (by simp) (by simp [okT, plainT, numT, okNames, namesT, nameT]; try omega))
  go_enter Try.func4, Try.ntmps4
  go_wp2_with fail
  refine (awake_any _).mono ?_
  rintro e w1 ⟨rfl, hb1⟩
  go_wp2_with fail
  have hsl0 := lit_sl w1 ts0 34 w1.heap.size rfl rfl
  refine (may_any w1.heap.size 0 7 ts0 _ (Lib.hid hsl0) (by simp) (by decide)).mono ?_
  rintro e w2 ⟨rfl, hb2⟩
  rw [show mayV ts0 = true from by decide +kernel]
  obtain ⟨hc2, hf2⟩ := bcell hb2
  have hg2 : w1.heap.size < w2.heap.size := by have := hb2.size; (try simp at this); omega
  have hsl2 := hsl0.below hb2 (by simp)
  clear hsl0
  have hsl' : Hid (TgSl (w2.setCell ⟨w1.heap.size, 29, none⟩ (.int .i64 (1 + d))) w1.heap.size 0 [⟨0, 0, 0, 0, 1, 0, 0, 0, 0⟩, ⟨1, 0, 0, 0, 2, 0, 0, 0, 0⟩, ⟨8, 0, 1, 0, 5, 0, 0, 0, 0⟩, ⟨9, 2, 1 + d, 0, 0, 0, 0, 0, 0⟩, ⟨0, 0, 0, 0, 2, 0, 0, 0, 0⟩, ⟨10, 3, 4, 0, 3, 0, 0, 0, 0⟩, ⟨4, 5, 0, 0, 0, 5, 6, 0, 0⟩]) := Lib.hid (tgSl_set hsl2 (by decide) rfl)
  clear hsl2
  have hg2' : w1.heap.size < (w2.setCell ⟨w1.heap.size, 29, none⟩ (.int .i64 (1 + d))).heap.size := by simp; omega
  go_wp2_with fail
  refine (Names_any w1.heap.size 0 7 [⟨0, 0, 0, 0, 1, 0, 0, 0, 0⟩, ⟨1, 0, 0, 0, 2, 0, 0, 0, 0⟩, ⟨8, 0, 1, 0, 5, 0, 0, 0, 0⟩, ⟨9, 2, 1 + d, 0, 0, 0, 0, 0, 0⟩, ⟨0, 0, 0, 0, 2, 0, 0, 0, 0⟩, ⟨10, 3, 4, 0, 3, 0, 0, 0, 0⟩, ⟨4, 5, 0, 0, 0, 5, 6, 0, 0⟩] _ hsl' hg2' (by simp)).mono ?_
  rintro e w3 ⟨rfl, hb3⟩
  rw [(bad_end hbad.out).1, (bad_end hbad.out).2]
  have hg3 : w1.heap.size < w3.heap.size := by have := hb3.size; (try simp at this); omega
  have hsl3 := Lib.hid (hsl'.out.below hb3 hg2')
  go_wp2_with fail
  refine (may_any w1.heap.size 0 7 [⟨0, 0, 0, 0, 1, 0, 0, 0, 0⟩, ⟨1, 0, 0, 0, 2, 0, 0, 0, 0⟩, ⟨8, 0, 1, 0, 5, 0, 0, 0, 0⟩, ⟨9, 2, 1 + d, 0, 0, 0, 0, 0, 0⟩, ⟨0, 0, 0, 0, 2, 0, 0, 0, 0⟩, ⟨10, 3, 4, 0, 3, 0, 0, 0, 0⟩, ⟨4, 5, 0, 0, 0, 5, 6, 0, 0⟩] _ hsl3 hg3 (by simp)).mono ?_
  rintro e w4 ⟨rfl, hb4⟩
  rw [hbad.out]
  go_wp2_with (go_at_call 9; refine (num_any _ _ (by omega) (by omega)).mono ?_; rintro e w' ⟨rfl, rfl⟩)
  go_ret
  have hb12 := belT hb1 (belT (by (repeat' (first | with_reducible exact Below.refl _ _ | with_reducible assumption | with_reducible apply Below.setCell | with_reducible apply Below.alloc | with_reducible apply Below.drew | with_reducible apply below_drewN | exact Nat.le_refl _ | (simp; done) | (simp; omega)))) hb2)
  have hb13 := belT (Below.setCell hb12 (p := ⟨w1.heap.size, 29, none⟩) (by have := hb1.size; simpa using this) (.int .i64 (1 + d))) hb3
  exact ⟨rfl, belT hb13 hb4⟩

set_option maxHeartbeats 1000000 in
set_option maxRecDepth 100000 in
theorem case8 (a0 a1 d : Int) (hd : 0 ≤ d ∧ d < 1024) (hk : bits .and .i64 a1 1023 = d) (he : (IntKind.u64.wrap a0).tmod 16 = 8) (w : World) :
    Calls Try.prog 4 #[.int .i64 a0, .int .i64 a1] w fun e w' => e = .returned (.bool true) ∧ Below w.heap.size w w' := by
  have hbad : Hid (mayV [⟨0, 0, 0, 0, 1, 0, 0, 0, 0⟩, ⟨1, 0, 0, 0, 2, 0, 0, 0, 0⟩, ⟨8, 0, 1, 0, 5, 0, 0, 0, 0⟩, ⟨9, 2, 0, 0, 0, 0, 0, 0, 0⟩, ⟨0, 0, 0, 0, 2, 0, 0, 0, 0⟩, ⟨10, 3, 4, 0, 3 + (1 + d), 0, 0, 0, 0⟩, ⟨4, 5, 0, 0, 0, 5, 6, 0, 0⟩] = false) := Lib.hid (mayV_node _ 5 (by simp) (by simp [okT, plainT, numT, okNames, namesT, nameT]; try omega))
  go_enter Try.func4, Try.ntmps4
  go_wp2_with fail
  refine (awake_any _).mono ?_
  rintro e w1 ⟨rfl, hb1⟩
  go_wp2_with fail
  have hsl0 := lit_sl w1 ts0 34 w1.heap.size rfl rfl
  refine (may_any w1.heap.size 0 7 ts0 _ (Lib.hid hsl0) (by simp) (by decide)).mono ?_
  rintro e w2 ⟨rfl, hb2⟩
  rw [show mayV ts0 = true from by decide +kernel]
  obtain ⟨hc2, hf2⟩ := bcell hb2
  have hg2 : w1.heap.size < w2.heap.size := by have := hb2.size; (try simp at this); omega
  have hsl2 := hsl0.below hb2 (by simp)
  clear hsl0
  have hsl' : Hid (TgSl (w2.setCell ⟨w1.heap.size, 49, none⟩ (.int .i64 (3 + (1 + d)))) w1.heap.size 0 [⟨0, 0, 0, 0, 1, 0, 0, 0, 0⟩, ⟨1, 0, 0, 0, 2, 0, 0, 0, 0⟩, ⟨8, 0, 1, 0, 5, 0, 0, 0, 0⟩, ⟨9, 2, 0, 0, 0, 0, 0, 0, 0⟩, ⟨0, 0, 0, 0, 2, 0, 0, 0, 0⟩, ⟨10, 3, 4, 0, 3 + (1 + d), 0, 0, 0, 0⟩, ⟨4, 5, 0, 0, 0, 5, 6, 0, 0⟩]) := Lib.hid (tgSl_set hsl2 (by decide) rfl)
  clear hsl2
  have hg2' : w1.heap.size < (w2.setCell ⟨w1.heap.size, 49, none⟩ (.int .i64 (3 + (1 + d)))).heap.size := by simp; omega
  go_wp2_with fail
  refine (Names_any w1.heap.size 0 7 [⟨0, 0, 0, 0, 1, 0, 0, 0, 0⟩, ⟨1, 0, 0, 0, 2, 0, 0, 0, 0⟩, ⟨8, 0, 1, 0, 5, 0, 0, 0, 0⟩, ⟨9, 2, 0, 0, 0, 0, 0, 0, 0⟩, ⟨0, 0, 0, 0, 2, 0, 0, 0, 0⟩, ⟨10, 3, 4, 0, 3 + (1 + d), 0, 0, 0, 0⟩, ⟨4, 5, 0, 0, 0, 5, 6, 0, 0⟩] _ hsl' hg2' (by simp)).mono ?_
  rintro e w3 ⟨rfl, hb3⟩
  rw [(bad_end hbad.out).1, (bad_end hbad.out).2]
  have hg3 : w1.heap.size < w3.heap.size := by have := hb3.size; (try simp at this); omega
  have hsl3 := Lib.hid (hsl'.out.below hb3 hg2')
  go_wp2_with fail
  refine (may_any w1.heap.size 0 7 [⟨0, 0, 0, 0, 1, 0, 0, 0, 0⟩, ⟨1, 0, 0, 0, 2, 0, 0, 0, 0⟩, ⟨8, 0, 1, 0, 5, 0, 0, 0, 0⟩, ⟨9, 2, 0, 0, 0, 0, 0, 0, 0⟩, ⟨0, 0, 0, 0, 2, 0, 0, 0, 0⟩, ⟨10, 3, 4, 0, 3 + (1 + d), 0, 0, 0, 0⟩, ⟨4, 5, 0, 0, 0, 5, 6, 0, 0⟩] _ hsl3 hg3 (by simp)).mono ?_
  rintro e w4 ⟨rfl, hb4⟩
  rw [hbad.out]
  go_wp2_with (go_at_call 9; refine (num_any _ _ (by omega) (by omega)).mono ?_; rintro e w' ⟨rfl, rfl⟩)
  go_ret
  have hb12 := belT hb1 (belT (by (repeat' (first | with_reducible exact Below.refl _ _ | with_reducible assumption | with_reducible apply Below.setCell | with_reducible apply Below.alloc | with_reducible apply Below.drew | with_reducible apply below_drewN | exact Nat.le_refl _ | (simp; done) | (simp; omega)))) hb2)
  have hb13 := belT (Below.setCell hb12 (p := ⟨w1.heap.size, 49, none⟩) (by have := hb1.size; simpa using this) (.int .i64 (3 + (1 + d)))) hb3
  exact ⟨rfl, belT hb13 hb4⟩

set_option maxHeartbeats 1000000 in
set_option maxRecDepth 100000 in
theorem case9 (a0 a1 d : Int) (hd : 0 ≤ d ∧ d < 1024) (hk : bits .and .i64 a1 1023 = d) (he : (IntKind.u64.wrap a0).tmod 16 = 9) (w : World) :
    Calls Try.prog 4 #[.int .i64 a0, .int .i64 a1] w fun e w' => e = .returned (.bool true) ∧ Below w.heap.size w w' := by
  have hbad : Hid (mayV [⟨0, 0, 0, 0, 1, 0, 0, 0, 0⟩, ⟨1, 0, 0, 0, 2, 0, 0, 0, 0⟩, ⟨8, 0, 1, 0, 5, 0, 0, 0, 0⟩, ⟨9, 2, 0, 0, 0, 0, 0, 0, 0⟩, ⟨0, 0, 0, 0, 2, 0, 0, 0, 0⟩, ⟨10, 3, 3, 0, 3, 0, 0, 0, 0⟩, ⟨4, 5, 0, 0, 0, 5, 6, 0, 0⟩] = false) := Lib.hid (by decide +kernel)
  go_enter Try.func4, Try.ntmps4
  go_wp2_with fail
  refine (awake_any _).mono ?_
  rintro e w1 ⟨rfl, hb1⟩
  go_wp2_with fail
  have hsl0 := lit_sl w1 ts0 34 w1.heap.size rfl rfl
  refine (may_any w1.heap.size 0 7 ts0 _ (Lib.hid hsl0) (by simp) (by decide)).mono ?_
  rintro e w2 ⟨rfl, hb2⟩
  rw [show mayV ts0 = true from by decide +kernel]
  obtain ⟨hc2, hf2⟩ := bcell hb2
  have hg2 : w1.heap.size < w2.heap.size := by have := hb2.size; (try simp at this); omega
  have hsl2 := hsl0.below hb2 (by simp)
  clear hsl0
  have hsl' : Hid (TgSl (w2.setCell ⟨w1.heap.size, 47, none⟩ (.int .i64 (3))) w1.heap.size 0 [⟨0, 0, 0, 0, 1, 0, 0, 0, 0⟩, ⟨1, 0, 0, 0, 2, 0, 0, 0, 0⟩, ⟨8, 0, 1, 0, 5, 0, 0, 0, 0⟩, ⟨9, 2, 0, 0, 0, 0, 0, 0, 0⟩, ⟨0, 0, 0, 0, 2, 0, 0, 0, 0⟩, ⟨10, 3, 3, 0, 3, 0, 0, 0, 0⟩, ⟨4, 5, 0, 0, 0, 5, 6, 0, 0⟩]) := Lib.hid (tgSl_set hsl2 (by decide) rfl)
  clear hsl2
  have hg2' : w1.heap.size < (w2.setCell ⟨w1.heap.size, 47, none⟩ (.int .i64 (3))).heap.size := by simp; omega
  go_wp2_with fail
  refine (Names_any w1.heap.size 0 7 [⟨0, 0, 0, 0, 1, 0, 0, 0, 0⟩, ⟨1, 0, 0, 0, 2, 0, 0, 0, 0⟩, ⟨8, 0, 1, 0, 5, 0, 0, 0, 0⟩, ⟨9, 2, 0, 0, 0, 0, 0, 0, 0⟩, ⟨0, 0, 0, 0, 2, 0, 0, 0, 0⟩, ⟨10, 3, 3, 0, 3, 0, 0, 0, 0⟩, ⟨4, 5, 0, 0, 0, 5, 6, 0, 0⟩] _ hsl' hg2' (by simp)).mono ?_
  rintro e w3 ⟨rfl, hb3⟩
  rw [(bad_end hbad.out).1, (bad_end hbad.out).2]
  have hg3 : w1.heap.size < w3.heap.size := by have := hb3.size; (try simp at this); omega
  have hsl3 := Lib.hid (hsl'.out.below hb3 hg2')
  go_wp2_with fail
  refine (may_any w1.heap.size 0 7 [⟨0, 0, 0, 0, 1, 0, 0, 0, 0⟩, ⟨1, 0, 0, 0, 2, 0, 0, 0, 0⟩, ⟨8, 0, 1, 0, 5, 0, 0, 0, 0⟩, ⟨9, 2, 0, 0, 0, 0, 0, 0, 0⟩, ⟨0, 0, 0, 0, 2, 0, 0, 0, 0⟩, ⟨10, 3, 3, 0, 3, 0, 0, 0, 0⟩, ⟨4, 5, 0, 0, 0, 5, 6, 0, 0⟩] _ hsl3 hg3 (by simp)).mono ?_
  rintro e w4 ⟨rfl, hb4⟩
  rw [hbad.out]
  go_wp2_with (go_at_call 9; refine (num_any _ _ (by omega) (by omega)).mono ?_; rintro e w' ⟨rfl, rfl⟩)
  go_ret
  have hb12 := belT hb1 (belT (by (repeat' (first | with_reducible exact Below.refl _ _ | with_reducible assumption | with_reducible apply Below.setCell | with_reducible apply Below.alloc | with_reducible apply Below.drew | with_reducible apply below_drewN | exact Nat.le_refl _ | (simp; done) | (simp; omega)))) hb2)
  have hb13 := belT (Below.setCell hb12 (p := ⟨w1.heap.size, 47, none⟩) (by have := hb1.size; simpa using this) (.int .i64 (3))) hb3
  exact ⟨rfl, belT hb13 hb4⟩

set_option maxHeartbeats 1000000 in
set_option maxRecDepth 100000 in
theorem case10 (a0 a1 d : Int) (hd : 0 ≤ d ∧ d < 1024) (hk : bits .and .i64 a1 1023 = d) (he : (IntKind.u64.wrap a0).tmod 16 = 10) (w : World) :
    Calls Try.prog 4 #[.int .i64 a0, .int .i64 a1] w fun e w' => e = .returned (.bool true) ∧ Below w.heap.size w w' := by
  have hbad : Hid (mayV [⟨0, 0, 0, 0, 1, 0, 0, 0, 0⟩, ⟨1, 0, 0, 0, 2, 0, 0, 0, 0⟩, ⟨8, 0, 1, 0, 5, 0, 0, 0, 0⟩, ⟨9, 2, 0, 0, 0, 0, 0, 0, 0⟩, ⟨0, 0, 0, 0, 2, 0, 0, 0, 0⟩, ⟨10, 3, 4, 0, 3, 0, 0, 0, 0⟩, ⟨4, 5, 0, 0, 0, -(1 + d), 6, 0, 0⟩] = false) := Lib.hid (mayV_node _ 6 (by simp) (by simp [okT, plainT, numT, okNames, namesT, nameT]; try omega))
  go_enter Try.func4, Try.ntmps4
  go_wp2_with fail
  refine (awake_any _).mono ?_
  rintro e w1 ⟨rfl, hb1⟩
  go_wp2_with fail
  have hsl0 := lit_sl w1 ts0 34 w1.heap.size rfl rfl
  refine (may_any w1.heap.size 0 7 ts0 _ (Lib.hid hsl0) (by simp) (by decide)).mono ?_
  rintro e w2 ⟨rfl, hb2⟩
  rw [show mayV ts0 = true from by decide +kernel]
  obtain ⟨hc2, hf2⟩ := bcell hb2
  have hg2 : w1.heap.size < w2.heap.size := by have := hb2.size; (try simp at this); omega
  have hsl2 := hsl0.below hb2 (by simp)
  clear hsl0
  have hsl' : Hid (TgSl (w2.setCell ⟨w1.heap.size, 59, none⟩ (.int .i64 (-(1 + d)))) w1.heap.size 0 [⟨0, 0, 0, 0, 1, 0, 0, 0, 0⟩, ⟨1, 0, 0, 0, 2, 0, 0, 0, 0⟩, ⟨8, 0, 1, 0, 5, 0, 0, 0, 0⟩, ⟨9, 2, 0, 0, 0, 0, 0, 0, 0⟩, ⟨0, 0, 0, 0, 2, 0, 0, 0, 0⟩, ⟨10, 3, 4, 0, 3, 0, 0, 0, 0⟩, ⟨4, 5, 0, 0, 0, -(1 + d), 6, 0, 0⟩]) := Lib.hid (tgSl_set hsl2 (by decide) rfl)
  clear hsl2
  have hg2' : w1.heap.size < (w2.setCell ⟨w1.heap.size, 59, none⟩ (.int .i64 (-(1 + d)))).heap.size := by simp; omega
  go_wp2_with fail
  refine (Names_any w1.heap.size 0 7 [⟨0, 0, 0, 0, 1, 0, 0, 0, 0⟩, ⟨1, 0, 0, 0, 2, 0, 0, 0, 0⟩, ⟨8, 0, 1, 0, 5, 0, 0, 0, 0⟩, ⟨9, 2, 0, 0, 0, 0, 0, 0, 0⟩, ⟨0, 0, 0, 0, 2, 0, 0, 0, 0⟩, ⟨10, 3, 4, 0, 3, 0, 0, 0, 0⟩, ⟨4, 5, 0, 0, 0, -(1 + d), 6, 0, 0⟩] _ hsl' hg2' (by simp)).mono ?_
  rintro e w3 ⟨rfl, hb3⟩
  rw [(bad_end hbad.out).1, (bad_end hbad.out).2]
  have hg3 : w1.heap.size < w3.heap.size := by have := hb3.size; (try simp at this); omega
  have hsl3 := Lib.hid (hsl'.out.below hb3 hg2')
  go_wp2_with fail
  refine (may_any w1.heap.size 0 7 [⟨0, 0, 0, 0, 1, 0, 0, 0, 0⟩, ⟨1, 0, 0, 0, 2, 0, 0, 0, 0⟩, ⟨8, 0, 1, 0, 5, 0, 0, 0, 0⟩, ⟨9, 2, 0, 0, 0, 0, 0, 0, 0⟩, ⟨0, 0, 0, 0, 2, 0, 0, 0, 0⟩, ⟨10, 3, 4, 0, 3, 0, 0, 0, 0⟩, ⟨4, 5, 0, 0, 0, -(1 + d), 6, 0, 0⟩] _ hsl3 hg3 (by simp)).mono ?_
  rintro e w4 ⟨rfl, hb4⟩
  rw [hbad.out]
  go_wp2_with (go_at_call 9; refine (num_any _ _ (by omega) (by omega)).mono ?_; rintro e w' ⟨rfl, rfl⟩)
  go_ret
  have hb12 := belT hb1 (belT (by (repeat' (first | with_reducible exact Below.refl _ _ | with_reducible assumption | with_reducible apply Below.setCell | with_reducible apply Below.alloc | with_reducible apply Below.drew | with_reducible apply below_drewN | exact Nat.le_refl _ | (simp; done) | (simp; omega)))) hb2)
  have hb13 := belT (Below.setCell hb12 (p := ⟨w1.heap.size, 59, none⟩) (by have := hb1.size; simpa using this) (.int .i64 (-(1 + d)))) hb3
  exact ⟨rfl, belT hb13 hb4⟩

set_option maxHeartbeats 1000000 in
set_option maxRecDepth 100000 in
theorem case11 (a0 a1 d : Int) (hd : 0 ≤ d ∧ d < 1024) (hk : bits .and .i64 a1 1023 = d) (he : (IntKind.u64.wrap a0).tmod 16 = 11) (w : World) :
    Calls Try.prog 4 #[.int .i64 a0, .int .i64 a1] w fun e w' => e = .returned (.bool true) ∧ Below w.heap.size w w' := by
  have hbad : Hid (mayV [⟨0, 0, 0, 0, 1, 0, 0, 0, 0⟩, ⟨1, 0, 0, 0, 2, 0, 0, 0, 0⟩, ⟨8, 0, 1, 0, 5, 0, 0, 0, 0⟩, ⟨9, 2, 0, 0, 0, 0, 0, 0, 0⟩, ⟨0, 0, 0, 0, 2, 0, 0, 0, 0⟩, ⟨10, 3, 4, 0, 3, 0, 0, 0, 0⟩, ⟨4, 5, 0, 0, 0, 5, 8191 + (1 + d), 0, 0⟩] = false) := Lib.hid (mayV_node _ 6 (by simp) (by simp [okT, plainT, numT, okNames, namesT, nameT]; try omega))
  go_enter Try.func4, Try.ntmps4
  go_wp2_with fail
  refine (awake_any _).mono ?_
  rintro e w1 ⟨rfl, hb1⟩
  go_wp2_with fail
  have hsl0 := lit_sl w1 ts0 34 w1.heap.size rfl rfl
  refine (may_any w1.heap.size 0 7 ts0 _ (Lib.hid hsl0) (by simp) (by decide)).mono ?_
  rintro e w2 ⟨rfl, hb2⟩
  rw [show mayV ts0 = true from by decide +kernel]
  obtain ⟨hc2, hf2⟩ := bcell hb2
  have hg2 : w1.heap.size < w2.heap.size := by have := hb2.size; (try simp at this); omega
  have hsl2 := hsl0.below hb2 (by simp)
  clear hsl0
  have hsl' : Hid (TgSl (w2.setCell ⟨w1.heap.size, 60, none⟩ (.int .i64 (8191 + (1 + d)))) w1.heap.size 0 [⟨0, 0, 0, 0, 1, 0, 0, 0, 0⟩, ⟨1, 0, 0, 0, 2, 0, 0, 0, 0⟩, ⟨8, 0, 1, 0, 5, 0, 0, 0, 0⟩, ⟨9, 2, 0, 0, 0, 0, 0, 0, 0⟩, ⟨0, 0, 0, 0, 2, 0, 0, 0, 0⟩, ⟨10, 3, 4, 0, 3, 0, 0, 0, 0⟩, ⟨4, 5, 0, 0, 0, 5, 8191 + (1 + d), 0, 0⟩]) := Lib.hid (tgSl_set hsl2 (by decide) rfl)
  clear hsl2
  have hg2' : w1.heap.size < (w2.setCell ⟨w1.heap.size, 60, none⟩ (.int .i64 (8191 + (1 + d)))).heap.size := by simp; omega
  go_wp2_with fail
  refine (Names_any w1.heap.size 0 7 [⟨0, 0, 0, 0, 1, 0, 0, 0, 0⟩, ⟨1, 0, 0, 0, 2, 0, 0, 0, 0⟩, ⟨8, 0, 1, 0, 5, 0, 0, 0, 0⟩, ⟨9, 2, 0, 0, 0, 0, 0, 0, 0⟩, ⟨0, 0, 0, 0, 2, 0, 0, 0, 0⟩, ⟨10, 3, 4, 0, 3, 0, 0, 0, 0⟩, ⟨4, 5, 0, 0, 0, 5, 8191 + (1 + d), 0, 0⟩] _ hsl' hg2' (by simp)).mono ?_
  rintro e w3 ⟨rfl, hb3⟩
  rw [(bad_end hbad.out).1, (bad_end hbad.out).2]
  have hg3 : w1.heap.size < w3.heap.size := by have := hb3.size; (try simp at this); omega
  have hsl3 := Lib.hid (hsl'.out.below hb3 hg2')
  go_wp2_with fail
  refine (may_any w1.heap.size 0 7 [⟨0, 0, 0, 0, 1, 0, 0, 0, 0⟩, ⟨1, 0, 0, 0, 2, 0, 0, 0, 0⟩, ⟨8, 0, 1, 0, 5, 0, 0, 0, 0⟩, ⟨9, 2, 0, 0, 0, 0, 0, 0, 0⟩, ⟨0, 0, 0, 0, 2, 0, 0, 0, 0⟩, ⟨10, 3, 4, 0, 3, 0, 0, 0, 0⟩, ⟨4, 5, 0, 0, 0, 5, 8191 + (1 + d), 0, 0⟩] _ hsl3 hg3 (by simp)).mono ?_
  rintro e w4 ⟨rfl, hb4⟩
  rw [hbad.out]
  go_wp2_with (go_at_call 9; refine (num_any _ _ (by omega) (by omega)).mono ?_; rintro e w' ⟨rfl, rfl⟩)
  go_ret
  have hb12 := belT hb1 (belT (by (repeat' (first | with_reducible exact Below.refl _ _ | with_reducible assumption | with_reducible apply Below.setCell | with_reducible apply Below.alloc | with_reducible apply Below.drew | with_reducible apply below_drewN | exact Nat.le_refl _ | (simp; done) | (simp; omega)))) hb2)
  have hb13 := belT (Below.setCell hb12 (p := ⟨w1.heap.size, 60, none⟩) (by have := hb1.size; simpa using this) (.int .i64 (8191 + (1 + d)))) hb3
  exact ⟨rfl, belT hb13 hb4⟩

set_option maxHeartbeats 1000000 in
set_option maxRecDepth 100000 in
theorem case12 (a0 a1 d : Int) (hd : 0 ≤ d ∧ d < 1024) (hk : bits .and .i64 a1 1023 = d) (he : (IntKind.u64.wrap a0).tmod 16 = 12) (w : World) :
    Calls Try.prog 4 #[.int .i64 a0, .int .i64 a1] w fun e w' => e = .returned (.bool true) ∧ Below w.heap.size w w' := by
  have hbad : Hid (mayV [⟨0, 0, 0, 0, 1, 0, 0, 0, 0⟩, ⟨1, 0, 0, 0, 2, 0, 0, 0, 0⟩, ⟨8, 0, 1, 0, 5, 0, 0, 0, 0⟩, ⟨9, 2, 0, 0, 0, 0, 0, 0, 0⟩, ⟨0, 0, 0, 0, 2, 0, 0, 0, 0⟩, ⟨10, 3, 4, 0, 3, 0, 0, 0, 0⟩, ⟨12 + (1 + d), 5, 0, 0, 0, 5, 6, 0, 0⟩] = false) := Lib.hid (mayV_node _ 6 (by simp) (by simp [okT, plainT, numT, okNames, namesT, nameT]; try omega))
  go_enter Try.func4, Try.ntmps4
  go_wp2_with fail
  refine (awake_any _).mono ?_
  rintro e w1 ⟨rfl, hb1⟩
  go_wp2_with fail
  have hsl0 := lit_sl w1 ts0 34 w1.heap.size rfl rfl
  refine (may_any w1.heap.size 0 7 ts0 _ (Lib.hid hsl0) (by simp) (by decide)).mono ?_
  rintro e w2 ⟨rfl, hb2⟩
  rw [show mayV ts0 = true from by decide +kernel]
  obtain ⟨hc2, hf2⟩ := bcell hb2
  have hg2 : w1.heap.size < w2.heap.size := by have := hb2.size; (try simp at this); omega
  have hsl2 := hsl0.below hb2 (by simp)
  clear hsl0
  have hsl' : Hid (TgSl (w2.setCell ⟨w1.heap.size, 54, none⟩ (.int .i64 (12 + (1 + d)))) w1.heap.size 0 [⟨0, 0, 0, 0, 1, 0, 0, 0, 0⟩, ⟨1, 0, 0, 0, 2, 0, 0, 0, 0⟩, ⟨8, 0, 1, 0, 5, 0, 0, 0, 0⟩, ⟨9, 2, 0, 0, 0, 0, 0, 0, 0⟩, ⟨0, 0, 0, 0, 2, 0, 0, 0, 0⟩, ⟨10, 3, 4, 0, 3, 0, 0, 0, 0⟩, ⟨12 + (1 + d), 5, 0, 0, 0, 5, 6, 0, 0⟩]) := Lib.hid (tgSl_set hsl2 (by decide) rfl)
  clear hsl2
  have hg2' : w1.heap.size < (w2.setCell ⟨w1.heap.size, 54, none⟩ (.int .i64 (12 + (1 + d)))).heap.size := by simp; omega
  go_wp2_with fail
  refine (Names_any w1.heap.size 0 7 [⟨0, 0, 0, 0, 1, 0, 0, 0, 0⟩, ⟨1, 0, 0, 0, 2, 0, 0, 0, 0⟩, ⟨8, 0, 1, 0, 5, 0, 0, 0, 0⟩, ⟨9, 2, 0, 0, 0, 0, 0, 0, 0⟩, ⟨0, 0, 0, 0, 2, 0, 0, 0, 0⟩, ⟨10, 3, 4, 0, 3, 0, 0, 0, 0⟩, ⟨12 + (1 + d), 5, 0, 0, 0, 5, 6, 0, 0⟩] _ hsl' hg2' (by simp)).mono ?_
  rintro e w3 ⟨rfl, hb3⟩
  rw [(bad_end hbad.out).1, (bad_end hbad.out).2]
  have hg3 : w1.heap.size < w3.heap.size := by have := hb3.size; (try simp at this); omega
  have hsl3 := Lib.hid (hsl'.out.below hb3 hg2')
  go_wp2_with fail
  refine (may_any w1.heap.size 0 7 [⟨0, 0, 0, 0, 1, 0, 0, 0, 0⟩, ⟨1, 0, 0, 0, 2, 0, 0, 0, 0⟩, ⟨8, 0, 1, 0, 5, 0, 0, 0, 0⟩, ⟨9, 2, 0, 0, 0, 0, 0, 0, 0⟩, ⟨0, 0, 0, 0, 2, 0, 0, 0, 0⟩, ⟨10, 3, 4, 0, 3, 0, 0, 0, 0⟩, ⟨12 + (1 + d), 5, 0, 0, 0, 5, 6, 0, 0⟩] _ hsl3 hg3 (by simp)).mono ?_
  rintro e w4 ⟨rfl, hb4⟩
  rw [hbad.out]
  go_wp2_with (go_at_call 9; refine (num_any _ _ (by omega) (by omega)).mono ?_; rintro e w' ⟨rfl, rfl⟩)
  go_ret
  have hb12 := belT hb1 (belT (by (repeat' (first | with_reducible exact Below.refl _ _ | with_reducible assumption | with_reducible apply Below.setCell | with_reducible apply Below.alloc | with_reducible apply Below.drew | with_reducible apply below_drewN | exact Nat.le_refl _ | (simp; done) | (simp; omega)))) hb2)
  have hb13 := belT (Below.setCell hb12 (p := ⟨w1.heap.size, 54, none⟩) (by have := hb1.size; simpa using this) (.int .i64 (12 + (1 + d)))) hb3
  exact ⟨rfl, belT hb13 hb4⟩

set_option maxHeartbeats 1000000 in
set_option maxRecDepth 100000 in
theorem case13 (a0 a1 d : Int) (hd : 0 ≤ d ∧ d < 1024) (hk : bits .and .i64 a1 1023 = d) (he : (IntKind.u64.wrap a0).tmod 16 = 13) (w : World) :
    Calls Try.prog 4 #[.int .i64 a0, .int .i64 a1] w fun e w' => e = .returned (.bool true) ∧ Below w.heap.size w w' := by
  have hbad : Hid (mayV [⟨0, 0, 0, 0, 1, 0, 0, 0, 0⟩, ⟨1, 0, 0, 0, 2, 0, 0, 0, 0⟩, ⟨8, 0, 1, 0, 5, 0, 0, 0, 0⟩, ⟨9, 2, 0, 0, 0, 0, 0, 0, 0⟩, ⟨0, 0, 0, 0, 2, 0, 0, 0, 0⟩, ⟨10, 3, 4, 0, 3, 0, 0, 0, 0⟩, ⟨4, 5, 0, 0, 0, 5, 6, 0, 1 + d⟩] = false) := Lib.hid (mayV_node _ 6 (by simp) (by simp [okT, plainT, numT, okNames, namesT, nameT]; try omega))
  go_enter Try.func4, Try.ntmps4
  go_wp2_with fail
  refine (awake_any _).mono ?_
  rintro e w1 ⟨rfl, hb1⟩
  go_wp2_with fail
  have hsl0 := lit_sl w1 ts0 34 w1.heap.size rfl rfl
  refine (may_any w1.heap.size 0 7 ts0 _ (Lib.hid hsl0) (by simp) (by decide)).mono ?_
  rintro e w2 ⟨rfl, hb2⟩
  rw [show mayV ts0 = true from by decide +kernel]
  obtain ⟨hc2, hf2⟩ := bcell hb2
  have hg2 : w1.heap.size < w2.heap.size := by have := hb2.size; (try simp at this); omega
  have hsl2 := hsl0.below hb2 (by simp)
  clear hsl0
  have hsl' : Hid (TgSl (w2.setCell ⟨w1.heap.size, 62, none⟩ (.int .i64 (1 + d))) w1.heap.size 0 [⟨0, 0, 0, 0, 1, 0, 0, 0, 0⟩, ⟨1, 0, 0, 0, 2, 0, 0, 0, 0⟩, ⟨8, 0, 1, 0, 5, 0, 0, 0, 0⟩, ⟨9, 2, 0, 0, 0, 0, 0, 0, 0⟩, ⟨0, 0, 0, 0, 2, 0, 0, 0, 0⟩, ⟨10, 3, 4, 0, 3, 0, 0, 0, 0⟩, ⟨4, 5, 0, 0, 0, 5, 6, 0, 1 + d⟩]) := Lib.hid (tgSl_set hsl2 (by decide) rfl)
  clear hsl2
  have hg2' : w1.heap.size < (w2.setCell ⟨w1.heap.size, 62, none⟩ (.int .i64 (1 + d))).heap.size := by simp; omega
  go_wp2_with fail
  refine (Names_any w1.heap.size 0 7 [⟨0, 0, 0, 0, 1, 0, 0, 0, 0⟩, ⟨1, 0, 0, 0, 2, 0, 0, 0, 0⟩, ⟨8, 0, 1, 0, 5, 0, 0, 0, 0⟩, ⟨9, 2, 0, 0, 0, 0, 0, 0, 0⟩, ⟨0, 0, 0, 0, 2, 0, 0, 0, 0⟩, ⟨10, 3, 4, 0, 3, 0, 0, 0, 0⟩, ⟨4, 5, 0, 0, 0, 5, 6, 0, 1 + d⟩] _ hsl' hg2' (by simp)).mono ?_
  rintro e w3 ⟨rfl, hb3⟩
  rw [(bad_end hbad.out).1, (bad_end hbad.out).2]
  have hg3 : w1.heap.size < w3.heap.size := by have := hb3.size; (try simp at this); omega
  have hsl3 := Lib.hid (hsl'.out.below hb3 hg2')
  go_wp2_with fail
  refine (may_any w1.heap.size 0 7 [⟨0, 0, 0, 0, 1, 0, 0, 0, 0⟩, ⟨1, 0, 0, 0, 2, 0, 0, 0, 0⟩, ⟨8, 0, 1, 0, 5, 0, 0, 0, 0⟩, ⟨9, 2, 0, 0, 0, 0, 0, 0, 0⟩, ⟨0, 0, 0, 0, 2, 0, 0, 0, 0⟩, ⟨10, 3, 4, 0, 3, 0, 0, 0, 0⟩, ⟨4, 5, 0, 0, 0, 5, 6, 0, 1 + d⟩] _ hsl3 hg3 (by simp)).mono ?_
  rintro e w4 ⟨rfl, hb4⟩
  rw [hbad.out]
  go_wp2_with (go_at_call 9; refine (num_any _ _ (by omega) (by omega)).mono ?_; rintro e w' ⟨rfl, rfl⟩)
  go_ret
  have hb12 := belT hb1 (belT (by (repeat' (first | with_reducible exact Below.refl _ _ | with_reducible assumption | with_reducible apply Below.setCell | with_reducible apply Below.alloc | with_reducible apply Below.drew | with_reducible apply below_drewN | exact Nat.le_refl _ | (simp; done) | (simp; omega)))) hb2)
  have hb13 := belT (Below.setCell hb12 (p := ⟨w1.heap.size, 62, none⟩) (by have := hb1.size; simpa using this) (.int .i64 (1 + d))) hb3
  exact ⟨rfl, belT hb13 hb4⟩

set_option maxHeartbeats 1000000 in
set_option maxRecDepth 100000 in
theorem case14 (a0 a1 d : Int) (hd : 0 ≤ d ∧ d < 1024) (hk : bits .and .i64 a1 1023 = d) (he : (IntKind.u64.wrap a0).tmod 16 = 14) (w : World) :
    Calls Try.prog 4 #[.int .i64 a0, .int .i64 a1] w fun e w' => e = .returned (.bool true) ∧ Below w.heap.size w w' := by
  have hbad : Hid (mayV (ts0.take 5) = false) := Lib.hid (by decide +kernel)
  go_enter Try.func4, Try.ntmps4
  go_wp2_with fail
  refine (awake_any _).mono ?_
  rintro e w1 ⟨rfl, hb1⟩
  go_wp2_with fail
  have hsl0 := lit_sl w1 ts0 34 w1.heap.size rfl rfl
  refine (may_any w1.heap.size 0 7 ts0 _ (Lib.hid hsl0) (by simp) (by decide)).mono ?_
  rintro e w2 ⟨rfl, hb2⟩
  rw [show mayV ts0 = true from by decide +kernel]
  obtain ⟨hc2, hf2⟩ := bcell hb2
  have hg2 : w1.heap.size < w2.heap.size := by have := hb2.size; (try simp at this); omega
  have hsl2 := hsl0.below hb2 (by simp)
  have hsl' : Hid (TgSl w2 w1.heap.size 0 (ts0.take 5)) := Lib.hid (tgSl_app (us := ts0.drop 5) hsl2).1
  clear hsl2 hsl0
  have hg2' := hg2
  go_wp2_with fail
  refine (Names_any w1.heap.size 0 7 (ts0.take 5) _ hsl' hg2' (by decide)).mono ?_
  rintro e w3 ⟨rfl, hb3⟩
  rw [(bad_end hbad.out).1, (bad_end hbad.out).2]
  have hg3 : w1.heap.size < w3.heap.size := by have := hb3.size; (try simp at this); omega
  have hsl3 := Lib.hid (hsl'.out.below hb3 hg2')
  go_wp2_with fail
  refine (may_any w1.heap.size 0 7 (ts0.take 5) _ hsl3 hg3 (by decide)).mono ?_
  rintro e w4 ⟨rfl, hb4⟩
  rw [hbad.out]
  go_wp2_with (go_at_call 9; refine (num_any _ _ (by omega) (by omega)).mono ?_; rintro e w' ⟨rfl, rfl⟩)
  go_ret
  have hb12 := belT hb1 (belT (by (repeat' (first | with_reducible exact Below.refl _ _ | with_reducible assumption | with_reducible apply Below.setCell | with_reducible apply Below.alloc | with_reducible apply Below.drew | with_reducible apply below_drewN | exact Nat.le_refl _ | (simp; done) | (simp; omega)))) hb2)
  have hb13 := belT hb12 hb3
  exact ⟨rfl, belT hb13 hb4⟩

end Go.Proofs.Ytohgiapngmocgaa.targetForms
