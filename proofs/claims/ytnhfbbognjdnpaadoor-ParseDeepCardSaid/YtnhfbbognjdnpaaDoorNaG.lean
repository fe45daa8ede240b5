/- The reference's fields at any node. -/
import Derived.Test.YtnhfbbognjdnpaaDoorNdT
import Derived.Test.YtnhfbbognjdnpaaDoorNaD
import Derived.Test.YtnhfbbognjdnpaaDoorNaE
/- The reference's fields at any node. -/
namespace Go.Proofs.YtnhfbbognjdnpaaDoor
open Go.RowKit
set_option linter.unusedVariables false
set_option linter.unusedSimpArgs false


theorem okF_X (named : Bool) (kd : Int) (hk : kd < 0 ∨ 10 < kd) (a b c nm at_ : Int) (s1 s2 s3 s4 : ByteArray) : okF named kd a b c nm s1 s2 s3 s4 at_ = false := by
  unfold okF plainB
  rw [if_neg (by omega), if_neg (by omega), if_neg (by omega), if_neg (by omega), if_neg (by omega), if_neg (by omega), if_neg (by omega), if_neg (by omega), if_neg (by omega)]
  rw [show decide (kd = 10) = false from decide_eq_false (by omega)]; simp
theorem kidsI_X (kd : Int) (hk : kd < 0 ∨ 10 < kd) : kidsI kd = -1 := by
  unfold kidsI
  (repeat' rw [if_neg (by omega)])
end Go.Proofs.YtnhfbbognjdnpaaDoor

/- Which rows are trees: the reference's shaped, anyShape; tree.has; Depth of both. -/
namespace Go.Proofs.YtnhfbbognjdnpaaDoor
open Go.RowKit
set_option linter.unusedVariables false
set_option linter.unusedSimpArgs false

def okNm (named : Bool) (t : Nd) : Bool := if named then namedB t.k t.n (namesL t.k t.nm t.x t.y t.z) else resB (namesL t.k t.nm t.x t.y t.z)
theorem okNd_F (named : Bool) (t : Nd) : okNd (okNm named) t = (okF named t.k t.a t.b t.c t.n t.nm t.x t.y t.z t.p && numB t.k t.n) := by
  unfold okNd okF okNm
  cases plainB t.k t.a t.b t.c t.n t.nm t.x t.y t.z <;> cases decide (0 ≤ t.p) <;> cases decide (t.p ≤ 4096) <;> cases numB t.k t.n <;> simp

theorem kNamed : Hid (∀ (t : Nd) (W : World), NdSz t → errTy W → Calls Tryd.prog 23 #[.agg #[.int .i64 t.k, .int .i64 t.a, .int .i64 t.b, .int .i64 t.c, .int .i64 t.n, .string t.nm, .string t.x, .string t.y, .string t.z, .int .i64 t.p]] W fun e w' => e = .returned (.bool (okNm true t)) ∧ Below W.heap.size W w') :=
  Lib.hid fun t W hz hg => named_any t.k t.a t.b t.c t.n t.p t.nm t.x t.y t.z W hz hg
theorem kRes : Hid (∀ (t : Nd) (W : World), NdSz t → errTy W → Calls Tryd.prog 43 #[.agg #[.int .i64 t.k, .int .i64 t.a, .int .i64 t.b, .int .i64 t.c, .int .i64 t.n, .string t.nm, .string t.x, .string t.y, .string t.z, .int .i64 t.p]] W fun e w' => e = .returned (.bool (okNm false t)) ∧ Below W.heap.size W w') :=
  Lib.hid fun t W hz hg => resolved_any t.k t.a t.b t.c t.n t.p t.nm t.x t.y t.z W
theorem cfNamed (xs : Array Value) (W : World) : (callFunc 23 xs).run Tryd.prog W = .ok (.enter 23 xs) W := by kernel_rfl
theorem cfRes (xs : Array Value) (W : World) : (callFunc 43 xs).run Tryd.prog W = .ok (.enter 43 xs) W := by kernel_rfl
theorem treeV_nil (ok : Nd → Bool) : treeV ok [] = false := treeV_len ok [] (.inl rfl)
theorem isTreeN_any (a : Option Addr) (n c : Nat) (ts : List Nd) (w : World) (h : Hid (NArg w a n ts)) (hsz : Hid (∀ t ∈ ts, NdSz t)) (hl : n ≤ 140737488351232) (hg : Hid (errTy w)) :
    Calls Tryd.prog 22 #[.slice a n c, .func (.func 23) #[] #[]] w fun e w' => e = .returned (.bool (treeV (okNm true) ts)) ∧ Below w.heap.size w w' := by
  obtain ⟨rfl, rfl | ⟨b, off, rfl, h1, h2⟩⟩ := h.out
  · rw [treeV_nil]; exact tree_nil _ a c w
  · exact isTree_any _ _ (Lib.hid cfNamed) kNamed b off c ts w (Lib.hid h1) hsz h2 hl hg
theorem isTreeR_any (a : Option Addr) (n c : Nat) (ts : List Nd) (w : World) (h : Hid (NArg w a n ts)) (hsz : Hid (∀ t ∈ ts, NdSz t)) (hl : n ≤ 140737488351232) (hg : Hid (errTy w)) :
    Calls Tryd.prog 22 #[.slice a n c, .func (.func 43) #[] #[]] w fun e w' => e = .returned (.bool (treeV (okNm false) ts)) ∧ Below w.heap.size w w' := by
  obtain ⟨rfl, rfl | ⟨b, off, rfl, h1, h2⟩⟩ := h.out
  · rw [treeV_nil]; exact tree_nil _ a c w
  · exact isTree_any _ _ (Lib.hid cfRes) kRes b off c ts w (Lib.hid h1) hsz h2 hl hg

end Go.Proofs.YtnhfbbognjdnpaaDoor

/- tree.has, the reference's anyShape; Depth of both. -/
namespace Go.Proofs.YtnhfbbognjdnpaaDoor
open Go.RowKit
set_option linter.unusedVariables false
set_option linter.unusedSimpArgs false

def anyV (ts : List Nd) : Bool := treeV (okNm true) ts || treeV (okNm false) ts
def hasV (ts : List Nd) (at_ : Int) : Bool := decide (0 ≤ at_ ∧ at_ < ts.length) && anyV ts
def depV (ts : List Nd) (at_ : Int) : Int × Int := if hasV ts at_ then (dp (ksN ts) at_.toNat, 0) else (0, 300)
theorem anyV_wf {ts : List Nd} (h : anyV ts = true) : ts.length ≤ 512 ∧ 0 < ts.length ∧ bg (ksN ts) (ts.length - 1) = 0 ∧ ∀ m, m < ts.length → 0 ≤ bg (ksN ts) m := by
  unfold anyV treeV at h
  simp only [Bool.or_eq_true, Bool.and_eq_true, decide_eq_true_eq] at h
  have hb : bg (ksN ts) (ts.length - 1) = 0 := by rcases h with ⟨_, h⟩ | ⟨_, h⟩ <;> exact h
  have hl : 1 ≤ ts.length ∧ ts.length ≤ 512 := by rcases h with ⟨⟨h, _⟩, _⟩ | ⟨⟨h, _⟩, _⟩ <;> exact h
  exact ⟨hl.2, by omega, hb, fun m hm => bg_all hb m (by omega)⟩

set_option maxHeartbeats 1000000 in
theorem has_any (a : Option Addr) (n c : Nat) (ts : List Nd) (at_ : Int) (w : World) (h : Hid (NArg w a n ts)) (hsz : Hid (∀ t ∈ ts, NdSz t)) (hl : n ≤ 140737488351232) (hg : Hid (errTy w)) :
    Calls Tryd.prog 26 #[.slice a n c, .int .i64 at_] w fun e w' => e = .returned (.bool (hasV ts at_)) ∧ Below w.heap.size w w' := by
  have hn := h.out.1
  by_cases h0 : at_ < 0
  · have hv : Hid (hasV ts at_ = false) := Lib.hid (by unfold hasV; rw [decide_eq_false (by omega)]; rfl)
    clear hn
    go_enter Tryd.func26, Tryd.ntmps26
    go_wp2_with fail
    go_ret
    exact ⟨ret_b hv.out.symm, by (repeat' (first | with_reducible exact Below.refl _ _ | with_reducible assumption | with_reducible apply Below.setCell | with_reducible apply Below.alloc | with_reducible apply Below.drew | with_reducible apply below_drewN | with_reducible exact Nat.le_refl _ | (simp; done) | (simp; omega) | omega | exact Nat.le_refl _))⟩
  by_cases h1 : at_ < (n : Int)
  case neg =>
    have hv : Hid (hasV ts at_ = false) := Lib.hid (by unfold hasV; rw [decide_eq_false (by omega)]; rfl)
    clear hn
    go_enter Tryd.func26, Tryd.ntmps26
    go_wp2_with fail
    go_ret
    exact ⟨ret_b hv.out.symm, by (repeat' (first | with_reducible exact Below.refl _ _ | with_reducible assumption | with_reducible apply Below.setCell | with_reducible apply Below.alloc | with_reducible apply Below.drew | with_reducible apply below_drewN | with_reducible exact Nat.le_refl _ | (simp; done) | (simp; omega) | omega | exact Nat.le_refl _))⟩
  have hv : Hid (hasV ts at_ = (treeV (okNm true) ts || treeV (okNm false) ts)) := Lib.hid (by unfold hasV anyV; rw [decide_eq_true (by omega), Bool.true_and])
  have k1 := Lib.hid fun (W : World) (hW : Hid (NArg W a n ts)) (hg : Hid (errTy W)) => isTreeN_any a n c ts W hW hsz hl hg
  have k2 := Lib.hid fun (W : World) (hW : Hid (NArg W a n ts)) (hg : Hid (errTy W)) => isTreeR_any a n c ts W hW hsz hl hg
  rw [hv.out]
  clear hv hn
  generalize treeV (okNm true) ts = b1 at k1 ⊢
  generalize treeV (okNm false) ts = b2 at k2 ⊢
  go_enter Tryd.func26, Tryd.ntmps26
  go_wp2_with fail
  refine (k1.out _ h hg).mono ?_
  rintro e w1 ⟨rfl, hb1⟩
  have hb1' := Lib.hid hb1; clear hb1
  cases b1
  · go_wp2_with fail
    refine (k2.out _ (Lib.hid (h.out.below hb1'.out)) (Lib.hid (errTy_below hg.out hb1'.out))).mono ?_
    rintro e w2 ⟨rfl, hb2⟩
    have hb2' := Lib.hid (belT hb1'.out hb2); clear hb2
    go_wp2_with fail
    go_ret
    exact ⟨ret_b (by simp), hb2'.out⟩
  · go_wp2_with fail
    go_ret
    exact ⟨rfl, hb1'.out⟩

theorem depV_no {ts : List Nd} {at_ : Int} (h : hasV ts at_ = false) : depV ts at_ = (0, 300) := by unfold depV; rw [h]; rfl
theorem depV_yes {ts : List Nd} {at_ : Int} (h : hasV ts at_ = true) : depV ts at_ = (dp (ksN ts) at_.toNat, 0) := by unfold depV; rw [h]; rfl
theorem hasV_wf {ts : List Nd} {at_ : Int} (h : hasV ts at_ = true) : ∃ k : Nat, at_ = k ∧ k < ts.length ∧ ts.length ≤ 512 ∧ 0 ≤ bg (ksN ts) k ∧ ∀ m, m < ts.length → 0 ≤ bg (ksN ts) m := by
  unfold hasV at h
  simp only [Bool.and_eq_true, decide_eq_true_eq] at h
  obtain ⟨⟨h1, h2⟩, h3⟩ := h
  obtain ⟨h4, h5, h6, h7⟩ := anyV_wf h3
  obtain ⟨k, rfl⟩ := Int.eq_ofNat_of_zero_le h1
  exact ⟨k, rfl, by omega, h4, h7 k (by omega), h7⟩

set_option maxHeartbeats 1000000 in
theorem tDepth_any (a : Option Addr) (n c : Nat) (ts : List Nd) (at_ : Int) (w : World) (h : Hid (NArg w a n ts)) (hsz : Hid (∀ t ∈ ts, NdSz t)) (hl : n ≤ 140737488351232) (hg : Hid (errTy w)) :
    Calls Tryd.prog 16 #[.slice a n c, .int .i64 at_] w fun e w' => e = .returned (.tuple #[.int .i64 (depV ts at_).1, .int .i64 (depV ts at_).2]) ∧ Below w.heap.size w w' := by
  have k1 := Lib.hid fun (W : World) (hW : Hid (NArg W a n ts)) (hg : Hid (errTy W)) => has_any a n c ts at_ W hW hsz hl hg
  cases hh : hasV ts at_
  · rw [depV_no hh]
    rw [hh] at k1
    clear hh
    go_enter Tryd.func16, Tryd.ntmps16
    go_wp2_with fail
    refine (k1.out _ h hg).mono ?_
    rintro e w1 ⟨rfl, hb1⟩
    have hb1' := Lib.hid hb1; clear hb1
    go_wp2_with fail
    go_ret2
    exact ⟨rfl, hb1'.out⟩
  · obtain ⟨k, rfl, h1, h2, h3, _⟩ := hasV_wf hh
    rw [depV_yes hh]
    rw [hh] at k1
    obtain ⟨rfl, h4⟩ := h.out
    obtain ⟨b, off, rfl, h5, h6⟩ : ∃ b off, a = some ⟨b, off, none⟩ ∧ NdSl w b off ts ∧ b < w.heap.size := by
      rcases h4 with rfl | h4
      · simp at h1
      · exact h4
    have k2 := Lib.hid fun (W : World) (hW : Hid (NdSl W b off ts)) (hb : b < W.heap.size) => tdepth_any b off c ts h2 (k + 1) k W (by omega) h1 h3 hW hb
    have h5' := Lib.hid h5
    rw [Int.toNat_natCast]
    generalize dp (ksN ts) k = D at k2 ⊢
    clear h5 h3 hh h4
    go_enter Tryd.func16, Tryd.ntmps16
    go_wp2_with fail
    refine (k1.out _ h hg).mono ?_
    rintro e w1 ⟨rfl, hb1⟩
    have hb1' := Lib.hid hb1; clear hb1
    go_wp2_with fail
    refine (k2.out _ (Lib.hid (h5'.out.below hb1'.out h6)) (by have := hb1'.out.size; omega)).mono ?_
    rintro e w2 ⟨rfl, hb2⟩
    have hb2' := Lib.hid (belT hb1'.out hb2); clear hb2
    go_wp2_with fail
    go_ret2
    exact ⟨rfl, hb2'.out⟩
end Go.Proofs.YtnhfbbognjdnpaaDoor
