/- Unification of a type with itself, and with a variable that is not in it: plain. -/
import Derived.Test.YtfkdcconmecaoaaDoorSfc
import Derived.Test.YtfkdcconmecaoaaDoorUfC
/- Unification of a type with itself, and with a variable that is not in it: plain. -/
namespace Go.Proofs.YtfkdcconmecaoaaDoor
set_option linter.unusedVariables false
set_option linter.unusedSimpArgs false

theorem free0T (T : TT) : freeT [] T := ⟨fun _ _ => rfl, fun _ _ => rfl⟩
theorem under0 (f : Int) (T : TT) : underU ⟨[], f⟩ T = T := freeT_id (free0T T)
theorem rowU_self {f : Int} (hf : f < 4096) {r : Rw} (hr : r.cnt = true) : rowU ⟨[], f⟩ r r = .ok ⟨[], f⟩ := by
  have e : putR (rhU ([] : List Bo)) r = r := freeR_id (m := []) (fun _ => rfl)
  have u : uniR r r f = some [] := by unfold uniR uniT; simp [mxz]
  have d : decide (4096 ≤ f) = false := decide_eq_false (by omega)
  unfold rowU
  rw [show (⟨[], f⟩ : US).made = [] from rfl, show (⟨[], f⟩ : US).fresh = f from rfl, e, u]
  simp only [hr, d, Bool.not_true, Bool.or_self, Bool.false_eq_true, if_false, bindRs]
  simp
theorem oneU_self {f : Int} (hf : f < 4096) : ∀ (T : TT) (n : Nat), T.sz ≤ n → T.cnt = true → T.sz ≤ 256 → oneU n ⟨[], f⟩ T T = some (.ok ⟨[], f⟩)
  | .base k, 0, hn, _, _ => by simp [TT.sz] at hn
  | .var k, 0, hn, _, _ => by simp [TT.sz] at hn
  | .fn a r b, 0, hn, _, _ => by simp [TT.sz] at hn
  | .base k, n + 1, _, _, _ => by rw [oneU_succ, under0]; simp [stepU]
  | .var v, n + 1, _, _, _ => by rw [oneU_succ, under0]; simp [stepU]
  | .fn a r b, n + 1, hn, hc, hz => by
    have hc' := hc
    unfold TT.cnt at hc'
    simp only [Bool.and_eq_true] at hc'
    have hs : (TT.fn a r b).sz = a.sz + b.sz + 1 := rfl
    have hfit : (TT.fn a r b).fits = true := fits_iff.2 ⟨hz, hc⟩
    rw [oneU_succ, under0]
    simp only [stepU, hfit, oneU_self hf a n (by omega) hc'.1.1 (by omega), rowU_self hf hc'.2, Bool.not_true, Bool.or_self, Bool.false_eq_true, if_false]
    exact oneU_self hf b n (by omega) hc'.1.2 (by omega)
theorem bind0 {f x : Int} {T : TT} (h : ¬ hasV T x) (hf : T.fits = true) : bindU ⟨[], f⟩ x T = .ok ⟨[.ty x T], f⟩ := by
  have e : hasVb T x = false := by cases q : hasVb T x with
    | false => rfl
    | true => exact absurd ((hasVb_iff T x).1 q) h
  unfold bindU putM
  rw [e, hf]
  simp
theorem ures_l {f x : Int} {T : TT} (h : ¬ hasV T x) (hf : T.fits = true) : oneU 1 ⟨[], f⟩ (.var x) T = some (.ok ⟨[.ty x T], f⟩) := by
  rw [oneU_succ, under0, under0]
  cases T with
  | base k => simp only [stepU, bind0 h hf]
  | fn a r b => simp only [stepU, bind0 h hf]
  | var u =>
    have : ¬ x = u := fun e => h (by subst e; exact rfl)
    simp only [stepU]; rw [if_neg this, bind0 h hf]
/-- what a type and a variable that is not in it are made. -/
def rightM (x : Int) : TT → Bo
  | .var v => .ty v (.var x)
  | T => .ty x T
theorem ures_r {f x : Int} {T : TT} (h : ¬ hasV T x) (hf : T.fits = true) : oneU 1 ⟨[], f⟩ T (.var x) = some (.ok ⟨[rightM x T], f⟩) := by
  rw [oneU_succ, under0, under0]
  cases T with
  | base k => simp only [stepU, bind0 h hf, rightM]
  | fn a r b => simp only [stepU, bind0 h hf, rightM]
  | var u =>
    have hn : ¬ u = x := fun e => h (by subst e; exact rfl)
    simp only [stepU]; rw [if_neg hn, bind0 (T := .var x) (fun e => hn e) rfl]; rfl
theorem hasV_fl : ∀ (T : TT) (o : Nat) (x : Int), hasV T x → vrT x ∈ fl o T
  | .base _, _, _, h => by cases h
  | .var v, o, x, h => by have e : x = v := h; subst e; exact List.mem_singleton.2 rfl
  | .fn a r b, o, x, h => by
    unfold fl
    rcases h with h | h
    · exact List.mem_append_left _ (List.mem_append_left _ (hasV_fl a o x h))
    · exact List.mem_append_left _ (List.mem_append_right _ (hasV_fl b _ x h))
theorem belU_var {x f : Int} (hx : 0 ≤ x ∧ x < 4096) : belU [vrT x] f = true := by
  have e : [vrT x] = fl 0 (.var x) := rfl
  unfold belU
  rw [e, fl_may (T := .var x) (by unfold TT.ok; simp; omega) (by simp [TT.sz])]
  rfl
theorem fits_of {ts : List Ty} (h : tyV ts = true) : (treeOf ts).fits = true := fits_iff.2 ⟨(tyV_of h).2.2.2.1, ok_cnt (tyV_of h).1⟩
theorem unRes_self {ts : List Ty} (h : unOk 40 ts ts = true) : UnRes 40 ts ts (.ok ⟨[], 40⟩) := by
  obtain ⟨_, hv, _, hi, _⟩ := unOk_of h
  unfold UnRes
  rw [if_pos h]
  exact ⟨_, oneU_self (by omega) (treeOf ts) _ (Nat.le_refl _) (ok_cnt hi.ok) (tyV_of hv).2.2.2.1⟩
theorem unOk_bel {ts : List Ty} : unOk 40 ts ts = belU ts 40 := by unfold unOk; simp
theorem unOk_l {x : Int} {ts : List Ty} (hx : 0 ≤ x ∧ x < 4096) : unOk 40 [vrT x] ts = belU ts 40 := by unfold unOk; rw [belU_var hx]; simp
theorem unOk_r {x : Int} {ts : List Ty} (hx : 0 ≤ x ∧ x < 4096) : unOk 40 ts [vrT x] = belU ts 40 := by unfold unOk; rw [belU_var hx]; simp
theorem not_has {ts : List Ty} {x : Int} (hv : tyV ts = true) (h : vrT x ∉ ts) : ¬ hasV (treeOf ts) x := fun e => h (by rw [(tyV_of hv).2.1]; exact hasV_fl _ 0 _ e)
theorem unRes_l {x : Int} {ts : List Ty} (hx : 0 ≤ x ∧ x < 4096) (hb : belU ts 40 = true) (hn : vrT x ∉ ts) : UnRes 40 [vrT x] ts (.ok ⟨[.ty x (treeOf ts)], 40⟩) := by
  have hv : tyV ts = true := by unfold belU at hb; simp only [Bool.and_eq_true] at hb; exact hb.1
  unfold UnRes
  rw [if_pos (by rw [unOk_l hx]; exact hb)]
  exact ⟨1, ures_l (not_has hv hn) (fits_of hv)⟩
theorem unRes_r {x : Int} {ts : List Ty} (hx : 0 ≤ x ∧ x < 4096) (hb : belU ts 40 = true) (hn : vrT x ∉ ts) : UnRes 40 ts [vrT x] (.ok ⟨[rightM x (treeOf ts)], 40⟩) := by
  have hv : tyV ts = true := by unfold belU at hb; simp only [Bool.and_eq_true] at hb; exact hb.1
  unfold UnRes
  rw [if_pos (by rw [unOk_r hx]; exact hb)]
  exact ⟨1, ures_r (not_has hv hn) (fits_of hv)⟩
theorem unRes_no {ta tb : List Ty} (h : unOk 40 ta tb = false) : UnRes 40 ta tb (.error 0) := by
  unfold UnRes; rw [if_neg (by rw [h]; intro e; cases e)]
end Go.Proofs.YtfkdcconmecaoaaDoor

/- What UnifySelf's calls give, told plainly. -/
namespace Go.Proofs.YtfkdcconmecaoaaDoor
open Go.RowKit
set_option linter.unusedVariables false
set_option linter.unusedSimpArgs false

def errI (q : Bool) : Int := if q then 0 else 1000
theorem self_res {ts : List Ty} {q : Bool} (hq : belU ts 40 = q) : UnRes 40 ts ts (if q then .ok ⟨[], 40⟩ else .error 0) := by
  cases q with
  | true => exact unRes_self (by rw [unOk_bel]; exact hq)
  | false => exact unRes_no (by rw [unOk_bel]; exact hq)
theorem left_res {ts : List Ty} {x : Int} {q : Bool} (hx : 0 ≤ x ∧ x < 4096) (hn : vrT x ∉ ts) (hq : belU ts 40 = q) : UnRes 40 [vrT x] ts (if q then .ok ⟨[.ty x (treeOf ts)], 40⟩ else .error 0) := by
  cases q with
  | true => exact unRes_l hx hq hn
  | false => exact unRes_no (by rw [unOk_l hx]; exact hq)
theorem right_res {ts : List Ty} {x : Int} {q : Bool} (hx : 0 ≤ x ∧ x < 4096) (hn : vrT x ∉ ts) (hq : belU ts 40 = q) : UnRes 40 ts [vrT x] (if q then .ok ⟨[rightM x (treeOf ts)], 40⟩ else .error 0) := by
  cases q with
  | true => exact unRes_r hx hq hn
  | false => exact unRes_no (by rw [unOk_r hx]; exact hq)
/-- no bind. -/
theorem self_go {q : Bool} {w : World} {e : Ending} {w' : World} (h : UniO w (if q then .ok ⟨[], 40⟩ else .error 0) e w') : ∃ b c, e = .returned (.tuple #[.slice b 0 c, .int .i64 (errI q)]) ∧ Below w.heap.size w w' := by
  cases q with
  | false => obtain ⟨⟨rfl, _⟩, hb⟩ := h; exact ⟨_, _, rfl, hb⟩
  | true =>
    obtain ⟨⟨v, xs, rfl, hM, hL⟩, hb⟩ := h
    have : xs = [] := by cases xs with
      | nil => rfl
      | cons => exact False.elim hL
    subst this
    rcases hM.own.cases with ⟨rfl, _⟩ | ⟨g, c, rfl, _⟩
    · exact ⟨_, _, rfl, hb⟩
    · exact ⟨_, _, rfl, hb⟩
/-- one bind of a type, in memory. -/
def OneAt (W : World) (G : Nat) (v : Int) (a : Option Addr) (n c : Nat) (ns : List Ty) : Prop :=
  G < W.heap.size ∧ W.cell? ⟨G, 0, none⟩ = some (.int .i64 v) ∧ W.cell? ⟨G, 2, none⟩ = some (.slice a n c) ∧ TyArg W a n ns ∧ n ≤ 256
theorem OneAt.below {W W' : World} {G : Nat} {v : Int} {a : Option Addr} {n c : Nat} {ns : List Ty} (h : OneAt W G v a n c ns) (hb : Below W.heap.size W W') : OneAt W' G v a n c ns := by
  obtain ⟨h0, h1, h2, h3, h4⟩ := h
  exact ⟨by have := hb.size; omega, carry hb h0 h1, carry hb h0 h2, h3.below hb, h4⟩
theorem one_go {q : Bool} {v : Int} {T : TT} {w : World} {e : Ending} {w' : World} (h : UniO w (if q then .ok ⟨[.ty v T], 40⟩ else .error 0) e w') :
    ∃ s, e = .returned (.tuple #[s, .int .i64 (errI q)]) ∧ (q = true → ∃ G k a n c, s = .slice (some ⟨G, 0, none⟩) 1 k ∧ OneAt w' G v a n c (fl 0 T)) ∧ Below w.heap.size w w' := by
  cases q with
  | false => obtain ⟨⟨rfl, _⟩, hb⟩ := h; exact ⟨_, rfl, (fun h => by cases h), hb⟩
  | true =>
    obtain ⟨⟨s, xs, rfl, hM, hL⟩, hb⟩ := h
    refine ⟨s, rfl, fun _ => ?_, hb⟩
    match xs, hL, hM with
    | [x], hL, hM =>
      obtain ⟨⟨q0, q1, q2, q3, q4⟩, _⟩ := hL
      rcases hM.own.cases with ⟨_, h⟩ | ⟨g, k, rfl, _, hg, _, hc, _⟩
      · cases h
      · have ht := hM.ty x (by simp)
        refine ⟨g, k, x.ad, x.n, x.c, rfl, hg, hc 0 _ ?_, hc 2 _ ?_, by rw [← q2]; exact ht.1, ht.2.1⟩
        all_goals simp [bnL, bnL1, q0]
theorem right_fl (x : Int) (T : TT) : ∃ v U, rightM x T = .ty v U ∧ (fl 0 U = fl 0 T ∨ fl 0 U = [vrT x]) := by
  cases T with
  | base k => exact ⟨_, _, rfl, .inl rfl⟩
  | fn a r b => exact ⟨_, _, rfl, .inl rfl⟩
  | var u => exact ⟨_, _, rfl, .inr rfl⟩
end Go.Proofs.YtfkdcconmecaoaaDoor
