/- direct.Direct and the reference's: by the same answer. -/
import Derived.Test.YtglbaboboonmhaaDoorDiB
import Derived.Test.YtglbaboboonmhaaDoorDiP
namespace Go.Proofs.YtglbaboboonmhaaDoor
open Go.RowKit
set_option linter.unusedVariables false
set_option linter.unusedSimpArgs false

set_option maxRecDepth 100000 in
set_option maxHeartbeats 2000000 in
theorem tDirect_any (a : Option Addr) (n c : Nat) (ts : List Nd) (at_ : Int) (w : World) (h : Hid (NArg w a n ts)) (hsz : Hid (∀ t ∈ ts, NdSz t)) (hl : n ≤ 140737488351232) (hg : Hid (errTy w)) :
    Calls Tryd.prog 5 #[.slice a n c, .int .i64 at_] w fun e w' => e = .returned (.tuple #[.bool (dirP ts at_).1, .int .i64 (dirP ts at_).2]) ∧ Below w.heap.size w w' := by
  have k1 := Lib.hid fun (W : World) (hW : Hid (NArg W a n ts)) (hg : Hid (errTy W)) => tDepth_any a n c ts at_ W hW hsz hl hg
  cases hh : hasV ts at_
  · rw [dirP_no hh]
    rw [depV_no hh] at k1
    dsimp only at k1
    clear hh
    go_enter Tryd.func5, Tryd.ntmps5
    go_wp2_with fail
    refine (k1.out _ h hg).mono ?_
    rintro e w1 ⟨rfl, hb1⟩
    have hb1' := Lib.hid hb1; clear hb1
    go_wp2_with fail
    go_ret2
    exact ⟨rfl, hb1'.out⟩
  · obtain ⟨k, rfl, h1, h2, h3, _⟩ := hasV_wf hh
    rw [dirP_yes hh]
    rw [depV_yes hh] at k1
    dsimp only at k1
    obtain ⟨rfl, h4⟩ := h.out
    obtain ⟨b, off, rfl, h5, h6⟩ : ∃ b off, a = some ⟨b, off, none⟩ ∧ NdSl w b off ts ∧ b < w.heap.size := by
      rcases h4 with rfl | h4
      · simp at h1
      · exact h4
    have k2 := Lib.hid fun (W : World) (hW : Hid (NdSl W b off ts)) (hb : b < W.heap.size) => tdir_any b off c ts h2 (k + 1) k W (by omega) h1 h3 hW hb
    have h5' := Lib.hid h5
    rw [Int.toNat_natCast] at k1 ⊢
    generalize dirV ts k = D at k2 ⊢
    generalize dp (ksN ts) k = E at k1
    clear h5 h3 hh h4
    go_enter Tryd.func5, Tryd.ntmps5
    go_wp2_with fail
    refine (k1.out _ h hg).mono ?_
    rintro e w1 ⟨rfl, hb1⟩
    have hb1' := Lib.hid hb1; clear hb1
    go_wp2_with fail
    refine (k2.out _ (Lib.hid (h5'.out.below hb1'.out h6)) (by have := hb1'.out.size; omega)).mono ?_
    rintro e w2 ⟨rfl, hb2⟩
    have hb2' := Lib.hid (belT hb1'.out hb2); clear hb2
    go_wp2_with fail
    go_ret2
    exact ⟨rfl, hb2'.out⟩
set_option maxRecDepth 100000 in
set_option maxHeartbeats 2000000 in
theorem rDirect_any (a : Option Addr) (n c : Nat) (ts : List Nd) (at_ : Int) (w : World) (h : Hid (NArg w a n ts)) (hsz : Hid (∀ t ∈ ts, NdSz t)) (hl : n ≤ 140737488351232) :
    Calls Tryd.prog 6 #[.slice a n c, .int .i64 at_] w fun e w' => e = .returned (.tuple #[.bool (dirP ts at_).1, .int .i64 (dirP ts at_).2]) ∧ Below w.heap.size w w' := by
  have k1 := Lib.hid fun (W : World) (hW : Hid (NArg W a n ts)) => rDepth_any a n c ts at_ W hW hsz hl
  cases hh : hasV ts at_
  · rw [dirP_no hh]
    rw [depV_no hh] at k1
    dsimp only at k1
    clear hh
    go_enter Tryd.func6, Tryd.ntmps6
    go_wp2_with fail
    refine (k1.out _ h).mono ?_
    rintro e w1 ⟨rfl, hb1⟩
    have hb1' := Lib.hid hb1; clear hb1
    go_wp2_with fail
    go_ret2
    exact ⟨rfl, hb1'.out⟩
  · obtain ⟨k, rfl, h1, h2, h3, _⟩ := hasV_wf hh
    rw [dirP_yes hh]
    rw [depV_yes hh] at k1
    dsimp only at k1
    obtain ⟨rfl, h4⟩ := h.out
    obtain ⟨b, off, rfl, h5, h6⟩ : ∃ b off, a = some ⟨b, off, none⟩ ∧ NdSl w b off ts ∧ b < w.heap.size := by
      rcases h4 with rfl | h4
      · simp at h1
      · exact h4
    have k2 := Lib.hid fun (W : World) (hW : Hid (NdSl W b off ts)) (hb : b < W.heap.size) => rdir_any b off c ts h2 (k + 1) k W (by omega) h1 h3 hW hb
    have h5' := Lib.hid h5
    rw [Int.toNat_natCast] at k1 ⊢
    generalize dirV ts k = D at k2 ⊢
    generalize dp (ksN ts) k = E at k1
    clear h5 h3 hh h4
    go_enter Tryd.func6, Tryd.ntmps6
    go_wp2_with fail
    refine (k1.out _ h).mono ?_
    rintro e w1 ⟨rfl, hb1⟩
    have hb1' := Lib.hid hb1; clear hb1
    go_wp2_with fail
    refine (k2.out _ (Lib.hid (h5'.out.below hb1'.out h6)) (by have := hb1'.out.size; omega)).mono ?_
    rintro e w2 ⟨rfl, hb2⟩
    have hb2' := Lib.hid (belT hb1'.out hb2); clear hb2
    go_wp2_with fail
    go_ret2
    exact ⟨rfl, hb2'.out⟩
end Go.Proofs.YtglbaboboonmhaaDoor
