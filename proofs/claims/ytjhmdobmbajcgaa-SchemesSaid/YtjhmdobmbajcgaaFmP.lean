/- SchemeForms: plain facts, and the memory that its literals lay. -/
import Derived.Test.YtjhmdobmbajcgaaStP
import Derived.Test.YtjhmdobmbajcgaaBar
import Derived.Test.YtjhmdobmbajcgaaTkD
namespace Go.Proofs.Ytjhmdobmbajcgaa
set_option linter.unusedVariables false
set_option linter.unusedSimpArgs false

theorem TpOk.bar {S : Nat → Prop} {w w' : World} {x : Tp} (h : TpOk w x) (hb : Bar S w w') (hn : ∀ b off, x.ad = some ⟨b, off, none⟩ → ¬ S b) : TpOk w' x := ⟨h.1.bar hb hn, h.2⟩
theorem TpArg.bar {S : Nat → Prop} {w w' : World} {a : Option Addr} {n : Nat} {l : List Tp} (h : TpArg w a n l) (hb : Bar S w w') (hn : ∀ b off, a = some ⟨b, off, none⟩ → ¬ S b) (hx : ∀ x ∈ l, ∀ b off, x.ad = some ⟨b, off, none⟩ → ¬ S b) : TpArg w' a n l := by
  obtain ⟨h1, h | ⟨b, off, h2, h3, h4⟩⟩ := h
  · exact ⟨h1, .inl h⟩
  · refine ⟨h1, .inr ⟨b, off, h2, fun i hi => ⟨hb.cell (h3 i hi).1 (hn b off h2), (h3 i hi).2.bar hb (hx _ ?_)⟩, by have := hb.size; omega⟩⟩
    rw [List.getD_eq_getElem?_getD, List.getElem?_eq_getElem hi]; exact List.getElem_mem hi
theorem RwArg.bar {S : Nat → Prop} {w w' : World} {a : Option Addr} {n : Nat} {l : List Rw} (h : RwArg w a n l) (hb : Bar S w w') (hn : ∀ b off, a = some ⟨b, off, none⟩ → ¬ S b) : RwArg w' a n l := by
  obtain ⟨h1, h | ⟨b, off, h2, h3, h4⟩⟩ := h
  · exact ⟨h1, .inl h⟩
  · exact ⟨h1, .inr ⟨b, off, h2, fun i hi => ⟨hb.cell (h3 i hi).1 (hn b off h2), hb.cell (h3 i hi).2.1 (hn b off h2), hb.cell (h3 i hi).2.2.1 (hn b off h2), hb.cell (h3 i hi).2.2.2.1 (hn b off h2), hb.cell (h3 i hi).2.2.2.2 (hn b off h2)⟩, by have := hb.size; omega⟩⟩
theorem ScAt.bar {S : Nat → Prop} {w w' : World} {g : Nat} {v1 v2 v3 : Value} (h : ScAt w g v1 v2 v3) (hb : Bar S w w') (hn : ¬ S g) : ScAt w' g v1 v2 v3 :=
  ⟨by have := hb.size; have := h.1; omega, hb.cell h.2.1 hn, hb.cell h.2.2.1 hn, hb.cell h.2.2.2 hn⟩

def fT : List Ty := [⟨2, 1, 0, 0, 0, 0, 0, 0, 0⟩, ⟨2, 2, 0, 0, 0, 0, 0, 0, 0⟩, ⟨3, 0, 0, 1, 0, 0, 0, 0, 3⟩]
def fX (b : Nat) : Tp := ⟨some ⟨b + 1 + 1 + 1 + 1 + 1, 0, none⟩, 1, 1, [⟨0, 0, 0, 0, 0, 0, 0, 0, 0⟩]⟩
def fR : Rw := ⟨0, 0, 0, 0, -1⟩
/-- Take tells an error. -/
def NoTk (ks : List Int) (xs : List Tp) (ms : List Int) (rs : List Rw) (ts : List Ty) : Prop := (tkOk ks xs ms rs && decide (subE (tkB ks xs ms rs) ts = 0)) = false
theorem noTk {ks ms : List Int} {xs : List Tp} {rs : List Rw} {ts : List Ty} (h : NoTk ks xs ms rs ts) : tkT ks xs ms rs ts = [] ∧ tkE ks xs ms rs ts = 1200 := by
  unfold NoTk at h
  constructor
  · unfold tkT
    cases hq : tkOk ks xs ms rs
    · rfl
    · rw [hq, Bool.true_and, decide_eq_false_iff_not] at h
      exact (subE_nil h).1
  · unfold tkE; rw [h]; rfl
theorem noTk_k {ks ms : List Int} {xs : List Tp} {rs : List Rw} {ts : List Ty} (h : dsI ks = false) : NoTk ks xs ms rs ts := by unfold NoTk tkOk; rw [h]; rfl
theorem noTk_m {ks ms : List Int} {xs : List Tp} {rs : List Rw} {ts : List Ty} (h : dsI ms = false) : NoTk ks xs ms rs ts := by unfold NoTk tkOk; rw [h]; simp
theorem noTk_x {ks ms : List Int} {xs : List Tp} {rs : List Rw} {ts : List Ty} (h : xs.length ≠ ks.length) : NoTk ks xs ms rs ts := by unfold NoTk tkOk; rw [decide_eq_false h]; simp
theorem noTk_r {ks ms : List Int} {xs : List Tp} {rs : List Rw} {ts : List Ty} (h : rs.length ≠ ms.length) : NoTk ks xs ms rs ts := by unfold NoTk tkOk; rw [decide_eq_false h]; simp
theorem noTk_b {ks ms : List Int} {xs : List Tp} {rs : List Rw} {ts : List Ty} (h : bsV (tkB ks xs ms rs) = false ∨ tyV ts = false) : NoTk ks xs ms rs ts := by
  have : subE (tkB ks xs ms rs) ts ≠ 0 := by
    unfold subE
    rcases h with h | h <;> rw [h] <;> simp
  unfold NoTk
  rw [decide_eq_false this]; simp
theorem fm_ok (b : Nat) : tkE [1, 2] [fX b, fX b] [3] [fR] fT = 0 := by kernel_rfl
theorem fm0 (d : Int) (hd : 1 ≤ d) (xs : List Tp) (ms : List Int) (rs : List Rw) (ts : List Ty) : NoTk [-d, 2] xs ms rs ts := noTk_k (dsI_out (j := 0) (by simp) (by unfold inV; exact decide_eq_false (by simp only [List.getD_cons_zero]; omega)))
theorem fm1 (xs : List Tp) (ms : List Int) (rs : List Rw) (ts : List Ty) : NoTk [1, 1] xs ms rs ts := noTk_k (by kernel_rfl)
theorem fm2 (d : Int) (hd : 1 ≤ d) (ks : List Int) (xs : List Tp) (rs : List Rw) (ts : List Ty) : NoTk ks xs [4095 + d] rs ts := noTk_m (dsI_out (j := 0) (by simp) (by unfold inV; exact decide_eq_false (by simp only [List.getD_cons_zero]; omega)))
theorem fm6 (d : Int) (hd : 1 ≤ d) (b : Nat) (ts : List Ty) : NoTk [1, 2] [fX b, fX b] [3] [⟨0, 0, 0, 0, -1 - d⟩] ts := by
  refine noTk_b (.inl (bs_node _ 2 (by simp [tkB, tbA, tbB]) ?_))
  show Bn.ok (tb2 3 ⟨0, 0, 0, 0, -1 - d⟩) = false
  have : (⟨0, 0, 0, 0, -1 - d⟩ : Rw).may = false := decide_eq_false (by simp only []; omega)
  unfold Bn.ok tb2
  simp [this]
theorem fm7 (b : Nat) (ts : List Ty) : NoTk [1, 2] [fX b, tp0] [3] [fR] ts := by
  refine noTk_b (.inl (bs_node _ 1 (by simp [tkB, tbA, tbB]) ?_))
  show Bn.ok (tb1 2 tp0) = false
  kernel_rfl
theorem fm8 (d : Int) (hd : 1 ≤ d) (ks ms : List Int) (xs : List Tp) (rs : List Rw) : NoTk ks xs ms rs [⟨0, d, 0, 0, 0, 0, 0, 0, 0⟩] := by
  refine noTk_b (.inr (tyV_node _ 0 (by simp) ?_))
  show tyOk ⟨0, d, 0, 0, 0, 0, 0, 0, 0⟩ = false
  unfold tyOk
  rw [if_neg (show ¬ ((0 : Int) = 3) from by decide), if_neg (show ¬ ((0 : Int) = 2) from by decide), if_pos (.inl rfl), tyE_iff]
  refine decide_eq_false fun hq => ?_
  have := congrArg Ty.v hq
  have h2 : d = 0 := this
  omega
end Go.Proofs.Ytjhmdobmbajcgaa
