/- The reference's fields at any node. -/
import Derived.Test.YtidlljookjicpaaDoorNdT
import Derived.Test.YtidlljookjicpaaDoorNaD
import Derived.Test.YtidlljookjicpaaDoorNaE
/- The reference's fields at any node. -/
namespace Go.Proofs.YtidlljookjicpaaDoor
open Go.RowKit
set_option linter.unusedVariables false
set_option linter.unusedSimpArgs false


theorem okF_X (named : Bool) (kd : Int) (hk : kd < 0 ∨ 10 < kd) (a b c nm at_ : Int) (s1 s2 s3 s4 : ByteArray) : okF named kd a b c nm s1 s2 s3 s4 at_ = false := by
  unfold okF plainB
  rw [if_neg (by omega), if_neg (by omega), if_neg (by omega), if_neg (by omega), if_neg (by omega), if_neg (by omega), if_neg (by omega), if_neg (by omega), if_neg (by omega)]
  rw [show decide (kd = 10) = false from decide_eq_false (by omega)]; simp
theorem kidsI_X (kd : Int) (hk : kd < 0 ∨ 10 < kd) : kidsI kd = -1 := by
  unfold kidsI
  (repeat' rw [if_neg (by omega)])
end Go.Proofs.YtidlljookjicpaaDoor

/- Which rows are trees: the reference's shaped, anyShape; tree.has; Depth of both. -/
namespace Go.Proofs.YtidlljookjicpaaDoor
open Go.RowKit
set_option linter.unusedVariables false
set_option linter.unusedSimpArgs false

def okNm (named : Bool) (t : Nd) : Bool := if named then namedB t.k t.n (namesL t.k t.nm t.x t.y t.z) else resB (namesL t.k t.nm t.x t.y t.z)
theorem okNd_F (named : Bool) (t : Nd) : okNd (okNm named) t = (okF named t.k t.a t.b t.c t.n t.nm t.x t.y t.z t.p && numB t.k t.n) := by
  unfold okNd okF okNm
  cases plainB t.k t.a t.b t.c t.n t.nm t.x t.y t.z <;> cases decide (0 ≤ t.p) <;> cases decide (t.p ≤ 4096) <;> cases numB t.k t.n <;> simp

theorem kNamed : Hid (∀ (t : Nd) (W : World), NdSz t → errTy W → Calls Tryd.prog 17 #[.agg #[.int .i64 t.k, .int .i64 t.a, .int .i64 t.b, .int .i64 t.c, .int .i64 t.n, .string t.nm, .string t.x, .string t.y, .string t.z, .int .i64 t.p]] W fun e w' => e = .returned (.bool (okNm true t)) ∧ Below W.heap.size W w') :=
  Lib.hid fun t W hz hg => named_any t.k t.a t.b t.c t.n t.p t.nm t.x t.y t.z W hz hg
theorem cfNamed (xs : Array Value) (W : World) : (callFunc 17 xs).run Tryd.prog W = .ok (.enter 17 xs) W := by kernel_rfl
theorem treeV_nil (ok : Nd → Bool) : treeV ok [] = false := treeV_len ok [] (.inl rfl)
theorem isTreeN_any (a : Option Addr) (n c : Nat) (ts : List Nd) (w : World) (h : Hid (NArg w a n ts)) (hsz : Hid (∀ t ∈ ts, NdSz t)) (hl : n ≤ 140737488351232) (hg : Hid (errTy w)) :
    Calls Tryd.prog 16 #[.slice a n c, .func (.func 17) #[] #[]] w fun e w' => e = .returned (.bool (treeV (okNm true) ts)) ∧ Below w.heap.size w w' := by
  obtain ⟨rfl, rfl | ⟨b, off, rfl, h1, h2⟩⟩ := h.out
  · rw [treeV_nil]; exact tree_nil _ a c w
  · exact isTree_any _ _ (Lib.hid cfNamed) kNamed b off c ts w (Lib.hid h1) hsz h2 hl hg
end Go.Proofs.YtidlljookjicpaaDoor

/- tree.has, the reference's anyShape; Depth of both. -/
namespace Go.Proofs.YtidlljookjicpaaDoor
open Go.RowKit
set_option linter.unusedVariables false
set_option linter.unusedSimpArgs false

def anyV (ts : List Nd) : Bool := treeV (okNm true) ts || treeV (okNm false) ts
def hasV (ts : List Nd) (at_ : Int) : Bool := decide (0 ≤ at_ ∧ at_ < ts.length) && anyV ts
def depV (ts : List Nd) (at_ : Int) : Int × Int := if hasV ts at_ then (dp (ksN ts) at_.toNat, 0) else (0, 300)
theorem anyV_wf {ts : List Nd} (h : anyV ts = true) : ts.length ≤ 512 ∧ 0 < ts.length ∧ bg (ksN ts) (ts.length - 1) = 0 ∧ ∀ m, m < ts.length → 0 ≤ bg (ksN ts) m := by
  unfold anyV treeV at h
  simp only [Bool.or_eq_true, Bool.and_eq_true, decide_eq_true_eq] at h
  have hb : bg (ksN ts) (ts.length - 1) = 0 := by rcases h with ⟨_, h⟩ | ⟨_, h⟩ <;> exact h
  have hl : 1 ≤ ts.length ∧ ts.length ≤ 512 := by rcases h with ⟨⟨h, _⟩, _⟩ | ⟨⟨h, _⟩, _⟩ <;> exact h
  exact ⟨hl.2, by omega, hb, fun m hm => bg_all hb m (by omega)⟩

theorem depV_no {ts : List Nd} {at_ : Int} (h : hasV ts at_ = false) : depV ts at_ = (0, 300) := by unfold depV; rw [h]; rfl
theorem depV_yes {ts : List Nd} {at_ : Int} (h : hasV ts at_ = true) : depV ts at_ = (dp (ksN ts) at_.toNat, 0) := by unfold depV; rw [h]; rfl
theorem hasV_wf {ts : List Nd} {at_ : Int} (h : hasV ts at_ = true) : ∃ k : Nat, at_ = k ∧ k < ts.length ∧ ts.length ≤ 512 ∧ 0 ≤ bg (ksN ts) k ∧ ∀ m, m < ts.length → 0 ≤ bg (ksN ts) m := by
  unfold hasV at h
  simp only [Bool.and_eq_true, decide_eq_true_eq] at h
  obtain ⟨⟨h1, h2⟩, h3⟩ := h
  obtain ⟨h4, h5, h6, h7⟩ := anyV_wf h3
  obtain ⟨k, rfl⟩ := Int.eq_ofNat_of_zero_le h1
  exact ⟨k, rfl, by omega, h4, h7 k (by omega), h7⟩

end Go.Proofs.YtidlljookjicpaaDoor
