/- The program's parser: which error it is. -/
import Derived.Test.YtidlljookjicpaaDoorPwS
import Derived.Test.YtidlljookjicpaaDoorPrA
import Derived.Test.YtidlljookjicpaaDoorPqA
import Derived.Test.YtidlljookjicpaaDoorLxG
import Derived.Test.YtidlljookjicpaaDoorLxV
import Derived.Deep.RegionWith
import Derived.Test.YtidlljookjicpaaDoorNdCo
import Derived.Test.YtidlljookjicpaaDoorPrg
import Derived.Test.YtidlljookjicpaaDoorMay
import Derived.Test.YtidlljookjicpaaDoorPaP
import Derived.Test.YtidlljookjicpaaDoorLxY
/- The program's parser: which error it is. -/
/- The program's parser: which error it is. -/
namespace Go.Proofs.YtidlljookjicpaaDoor
open Go.RowKit
set_option linter.unusedVariables false
set_option linter.unusedSimpArgs false

end Go.Proofs.YtidlljookjicpaaDoor

/- The program's parser: Parse. -/
namespace Go.Proofs.YtidlljookjicpaaDoor
open Go.RowKit
set_option linter.unusedVariables false
set_option linter.unusedSimpArgs false

theorem owns_mono {w : World} {B B' : Nat} {e : TypeId} {s : Nat} {v : Value} {n : Nat} {xs : List Value} (h : w.ownsRow B e s v n xs) (hb : B' ≤ B) : w.ownsRow B' e s v n xs := by
  refine ⟨h.1, ?_⟩
  rcases h.2 with h0 | ⟨g, cap, cur, rfl, hB, rest⟩
  · exact .inl h0
  · exact .inr ⟨g, cap, cur, rfl, Nat.le_trans hb hB, rest⟩
/-- what a text comes to. -/
def PrR (R : Except PE (List Or × List Nd)) (ov nv : Value) (os : List Or) (ns : List Nd) (pl er : Int) : Prop := match R with
  | .ok p => os = p.1 ∧ ns = p.2 ∧ pl = 0 ∧ er = 0
  | .error x => ov = .slice none 0 0 ∧ nv = .slice none 0 0 ∧ os = [] ∧ ns = [] ∧ pl = x.2 ∧ er = x.1
def PrP (R : Except PE (List Or × List Nd)) (w : World) (e : Ending) (w' : World) : Prop := ∃ ov nv os ns pl er, e = .returned (.tuple #[.agg #[ov, nv], .int .i64 pl, .int .i64 er]) ∧ OwnO w.heap.size w' ov os ∧ OwnN w.heap.size w' nv ns ∧ Below w.heap.size w w' ∧ PrR R ov nv os ns pl er
theorem prp_ok {R : Except PE (List Or × List Nd)} {w w' : World} {e : Ending} {os : List Or} {ns : List Nd} (h : PrP R w e w') (hr : R = .ok (os, ns)) : ∃ a c a2 c2, e = .returned (.tuple #[.agg #[.slice a os.length c, .slice a2 ns.length c2], .int .i64 0, .int .i64 0]) ∧ Below w.heap.size w w' ∧ OwnO w.heap.size w' (.slice a os.length c) os ∧ OwnN w.heap.size w' (.slice a2 ns.length c2) ns := by
  subst hr
  obtain ⟨ov, nv, os, ns, pl, er, rfl, ho, hn, hb, rfl, rfl, rfl, rfl⟩ := h
  obtain ⟨a, c, rfl⟩ := owno_sl ho
  obtain ⟨a2, c2, rfl⟩ := own_sl hn
  exact ⟨a, c, a2, c2, rfl, hb, ho, hn⟩
theorem prp_no {R : Except PE (List Or × List Nd)} {w w' : World} {e : Ending} {x : PE} (h : PrP R w e w') (hr : R = .error x) : e = .returned (.tuple #[.agg #[.slice none 0 0, .slice none 0 0], .int .i64 x.2, .int .i64 x.1]) ∧ Below w.heap.size w w' := by
  subst hr
  obtain ⟨ov, nv, os, ns, pl, er, rfl, ho, hn, hb, rfl, rfl, rfl, rfl, rfl, rfl⟩ := h
  exact ⟨rfl, hb⟩
/-- nothing has turned but the result's cells, and they hold no program. -/
structure KX (w : World) (P : Nat) (X : World) : Prop where
  b : Bar (fun k => k = P) w X
  c0 : X.cell? ⟨P, 0, none⟩ = some (.slice none 0 0)
  c1 : X.cell? ⟨P, 1, none⟩ = some (.slice none 0 0)
  f : ∀ o, X.frozen? ⟨P, o, none⟩ = false
theorem KX.drew {w X : World} {P : Nat} (h : KX w P X) : KX w P X.drew := ⟨h.b.next ((Below.refl _ _).drew), h.c0, h.c1, h.f⟩
theorem KX.set0 {w X : World} {P : Nat} (h : KX w P X) : KX w P (X.setCell ⟨P, 0, none⟩ (.slice none 0 0)) := ⟨h.b.trans (Bar.set (S := fun k => k = P) ⟨P, 0, none⟩ _ rfl) fun _ _ hs => hs, setS h.c0, setO h.c1 (by simp), fun o => by simp only [World.frozen?_setCell]; exact h.f o⟩
theorem KX.set1 {w X : World} {P : Nat} (h : KX w P X) : KX w P (X.setCell ⟨P, 1, none⟩ (.slice none 0 0)) := ⟨h.b.trans (Bar.set (S := fun k => k = P) ⟨P, 1, none⟩ _ rfl) fun _ _ hs => hs, setO h.c0 (by simp), setS h.c1, fun o => by simp only [World.frozen?_setCell]; exact h.f o⟩
theorem KX.next {w X Y : World} {P : Nat} (h : KX w P X) (hP : P < X.heap.size) (hb : Below X.heap.size X Y) : KX w P Y := ⟨h.b.next hb, carry hb hP h.c0, carry hb hP h.c1, fun o => (hb.frozen (p := ⟨P, o, none⟩) hP).trans (h.f o)⟩
end Go.Proofs.YtidlljookjicpaaDoor

/- Layer 4's awake. -/
namespace Go.Proofs.YtidlljookjicpaaDoor
open Go.RowKit
set_option linter.unusedVariables false
set_option linter.unusedSimpArgs false

def aw4O : List Or := [⟨⟨#[97]⟩, 0, 1⟩]
def aw4N : List Nd := [⟨0, 0, 0, 0, 0, ⟨#[120]⟩, ⟨#[]⟩, ⟨#[]⟩, ⟨#[]⟩, 29⟩, ⟨1, 0, 0, 0, 2, ⟨#[]⟩, ⟨#[]⟩, ⟨#[]⟩, ⟨#[]⟩, 33⟩, ⟨0, 0, 0, 0, 0, ⟨#[121]⟩, ⟨#[]⟩, ⟨#[]⟩, ⟨#[]⟩, 37⟩, ⟨8, 1, 2, 0, 2, ⟨#[]⟩, ⟨#[]⟩, ⟨#[]⟩, ⟨#[]⟩, 35⟩, ⟨8, 0, 3, 0, 0, ⟨#[]⟩, ⟨#[]⟩, ⟨#[]⟩, ⟨#[]⟩, 31⟩, ⟨3, 4, 0, 0, 0, ⟨#[]⟩, ⟨#[120]⟩, ⟨#[]⟩, ⟨#[]⟩, 20⟩]
theorem pv1 : parseV ⟨#[111, 112, 32, 97, 32, 58, 32, 105, 110, 116, 32, 45, 62, 32, 98, 111, 111, 108, 59, 32, 102, 117, 110, 32, 120, 32, 45, 62, 32, 120, 32, 43, 32, 50, 32, 42, 32, 121]⟩ = .ok (aw4O, aw4N) := by kernel_rfl
theorem pv2 : parseV ⟨#[102, 117, 110, 32, 120, 32, 45, 62]⟩ = .error (403, 8) := by kernel_rfl
theorem pv3 : parseV ⟨#[120, 32, 36]⟩ = .error (400, 2) := by kernel_rfl
theorem pv4 : parseV ⟨#[40, 120]⟩ = .error (403, 2) := by kernel_rfl
end Go.Proofs.YtidlljookjicpaaDoor

/- What a text's program is like. -/
namespace Go.Proofs.YtidlljookjicpaaDoor
open Go.RowKit
set_option linter.unusedVariables false
set_option linter.unusedSimpArgs false

/-- what is known of a program that was read. -/
structure PrK (n : Nat) (os : List Or) (ns : List Nd) : Prop where
  sz : ∀ t ∈ ns, NdSz t
  oz : ∀ o ∈ os, OrSz o
  may : mayV os ns = true
  at_ : ∀ j, j < ns.length → 0 ≤ (ns.getD j nd0).p ∧ (ns.getD j nd0).p < n
  l0 : 1 ≤ ns.length
  l1 : ns.length ≤ 512
  ol : os.length ≤ 4
theorem parse_k {s : ByteArray} {os : List Or} {ns : List Nd} (h : parseV s = .ok (os, ns)) : PrK s.size os ns := by
  obtain ⟨h1, h2, h3, h4⟩ := parseV_may h
  have hl : 1 ≤ ns.length ∧ ns.length ≤ 512 := by
    unfold treeV at h1
    simp only [Bool.and_eq_true, decide_eq_true_eq] at h1
    exact h1.1.1
  refine ⟨fun t ht => ok_sz (h2 t ht).1, fun o ho => nm_sz (h4 o ho).2.2, ?_, fun j hj => ?_, hl.1, hl.2, h3⟩
  · unfold mayV
    rw [h1, opsV_ok h3, Bool.and_true]
    rw [List.all_eq_true]
    intro o ho
    obtain ⟨a1, a2, a3⟩ := h4 o ho
    unfold opOk baseB
    rw [a3]
    rcases a1 with e1 | e1 <;> rcases a2 with e2 | e2 <;> (rw [e1, e2]; rfl)
  · have hm : ns.getD j nd0 ∈ ns := by
      rw [List.getD_eq_getElem?_getD, List.getElem?_eq_getElem hj]; exact List.getElem_mem hj
    exact (h2 _ hm).2
theorem parse_no {s : ByteArray} {x : PE} (h : parseV s = .error x) : (400 ≤ x.1 ∧ x.1 ≤ 403) ∧ 0 ≤ x.2 ∧ x.2 ≤ s.size := parseV_bad h (lexR_place s)
end Go.Proofs.YtidlljookjicpaaDoor

/- Rows of nodes that are the same but for their places. -/
namespace Go.Proofs.YtidlljookjicpaaDoor
open Go.RowKit
set_option linter.unusedVariables false
set_option linter.unusedSimpArgs false

end Go.Proofs.YtidlljookjicpaaDoor

/- A text in brackets. -/
namespace Go.Proofs.YtidlljookjicpaaDoor
open Go.RowKit
set_option linter.unusedVariables false
set_option linter.unusedSimpArgs false

section
variable {ts : List Tk} {en : Int} {E : PS → Except PE (Nat × PS)}
/-- an expression at a bracket that opens: what is in the brackets; nothing may go on behind it. -/
theorem brk_at {i : Nat} {ns : List Nd} {t : Tk} (ht : ts[i]? = some t) (hk : t.kind = 3) (hx : t.text = sgOpen) : atomP ts en E ⟨i, ns⟩ = (E ⟨i + 1, ns⟩ >>= fun p => wantP ts en sgShut p.2 >>= fun s => .ok (p.1, s)) := by
  have hi : ∀ u, isP ts i u = (sgOpen == u) := fun u => by unfold isP; rw [ht]; dsimp only; rw [hk, hx]; rfl
  unfold atomP
  simp only [ht]
  rw [if_neg (by rw [hk]; decide), if_neg (by rw [hk]; decide), hi, hi, hi, if_neg (by decide), if_neg (by decide), if_pos (by decide)]
theorem brk_first {i : Nat} {ns : List Nd} {t : Tk} (ht : ts[i]? = some t) (hk : t.kind = 3) (hx : t.text = sgOpen) : firstP ts en E ⟨i, ns⟩ = atomP ts en E ⟨i, ns⟩ := by
  have hi : ∀ u, isP ts i u = (sgOpen == u) := fun u => by unfold isP; rw [ht]; dsimp only; rw [hk, hx]; rfl
  unfold firstP
  rw [hi, if_neg (by decide)]
theorem open_first {i : Nat} {ns : List Nd} (h0 : isP ts i kwFun = false) (h1 : isP ts i kwLet = false) (h2 : isP ts i kwIf = false) {e : PE} (h : firstP ts en E ⟨i, ns⟩ = .error e) : openP ts en E ⟨i, ns⟩ = .error e := by
  unfold openP
  rw [if_neg (by rw [h0]; decide), if_neg (by rw [h1]; decide), if_neg (by rw [h2]; decide)]
  unfold compareP sumP productP applyP
  rw [h]
  rfl
theorem isP_end {i : Nat} (h : ts.length ≤ i) (u : List UInt8) : isP ts i u = false := by unfold isP; rw [List.getElem?_eq_none h]
theorem starts_end {i : Nat} (h : ts.length ≤ i) : startsP ts i = false := by unfold startsP; rw [List.getElem?_eq_none h]
theorem open_last {i : Nat} {ns : List Nd} (h0 : isP ts i kwFun = false) (h1 : isP ts i kwLet = false) (h2 : isP ts i kwIf = false) {a : Nat} {st : PS} (h : firstP ts en E ⟨i, ns⟩ = .ok (a, st)) (hl : ts.length ≤ st.i) : openP ts en E ⟨i, ns⟩ = .ok (a, st) := by
  unfold openP
  rw [if_neg (by rw [h0]; decide), if_neg (by rw [h1]; decide), if_neg (by rw [h2]; decide)]
  have ha : applyP ts en E ⟨i, ns⟩ = .ok (a, st) := by
    unfold applyP
    rw [h]
    show appLoop ts en E _ (ts.length + 1) a st = _
    unfold appLoop
    rw [if_neg (by rw [starts_end hl]; decide)]
  have hr : ∀ (u v : List UInt8) (nu nv : Int) (o : PS → Except PE (Nat × PS)), rankLoop ts en u v nu nv o (ts.length + 1) a st = .ok (a, st) := fun u v nu nv o => by
    unfold rankLoop
    rw [if_neg (by rw [isP_end hl]; decide), if_neg (by rw [isP_end hl]; decide)]
  have hp : productP ts en E ⟨i, ns⟩ = .ok (a, st) := by
    unfold productP
    rw [ha]
    exact hr _ _ _ _ _
  have hs : sumP ts en E ⟨i, ns⟩ = .ok (a, st) := by
    unfold sumP
    rw [hp]
    exact hr _ _ _ _ _
  unfold compareP
  rw [hs]
  show (if isP ts st.i sgEq2 then _ else if isP ts st.i sgLess then _ else _) = _
  rw [if_neg (by rw [isP_end hl]; decide), if_neg (by rw [isP_end hl]; decide)]
/-- where 'op' stands, no expression begins. -/
theorem op_err {i : Nat} {ns : List Nd} {t : Tk} (ht : ts[i]? = some t) (hk : t.kind = 2 ∨ t.kind = 3) (hx : t.text = kwOp) : openP ts en E ⟨i, ns⟩ = .error (403, hereP ts en i) := by
  have hi : ∀ u, isP ts i u = (kwOp == u) := fun u => by unfold isP; rw [ht]; rcases hk with h | h <;> (dsimp only; rw [h, hx]; rfl)
  refine open_first (by rw [hi]; decide) (by rw [hi]; decide) (by rw [hi]; decide) ?_
  unfold firstP
  rw [hi, if_neg (by decide)]
  unfold atomP
  simp only [ht]
  rw [if_neg (by rcases hk with h | h <;> rw [h] <;> decide), if_neg (by rcases hk with h | h <;> rw [h] <;> decide), hi, hi, hi, hi, if_neg (by decide), if_neg (by decide), if_neg (by decide), if_neg (by decide)]
theorem declLoop_len : ∀ (f : Nat) (os os' : List Or) (st s1 : PS), declLoop ts en f os st = .ok (os', s1) → os.length ≤ os'.length
  | 0, os, os', st, s1, h => by cases h
  | f + 1, os, os', st, s1, h => by
    unfold declLoop at h
    by_cases h0 : isP ts st.i kwOp = true
    · rw [if_pos h0] at h
      simp only [ex_ok, Prod.exists] at h
      obtain ⟨o2, s2, h1, h2⟩ := h
      obtain ⟨_, _, _, _, o, rfl, _⟩ := declP_ok h1
      have := declLoop_len f _ _ _ _ h2
      simp at this
      omega
    · rw [if_neg h0] at h
      injection h with h; injection h with h1 h2; subst h1; exact Nat.le_refl _
end
/-- the tokens of a text in brackets. -/
def brT (ts : List Tk) (c : Int) : List Tk := ⟨3, sgOpen, 0, 0⟩ :: (ts.map (shT 1) ++ [⟨3, sgShut, 0, c⟩])
theorem br_emb (ts : List Tk) (c : Int) : Emb ts (brT ts c) 1 1 := by
  refine ⟨fun i t h => ?_, fun t h => ?_, by unfold brT; simp; omega⟩
  · have hl := (List.getElem?_eq_some_iff.1 h).1
    show (ts.map (shT 1) ++ [⟨3, sgShut, 0, c⟩])[i]? = _
    rw [List.getElem?_append_left (by simpa using hl), List.getElem?_map, h]
    rfl
  · have h : (ts.map (shT 1) ++ [⟨3, sgShut, 0, c⟩])[ts.length]? = some t := h
    rw [List.getElem?_append_right (by simp)] at h
    simp at h
    subst h
    exact ⟨rfl, rfl⟩
theorem br_len (ts : List Tk) (c : Int) : (brT ts c).length = ts.length + 2 := by unfold brT; simp
theorem br_isP (ts : List Tk) (c : Int) (u : List UInt8) : isP (brT ts c) 0 u = (sgOpen == u) := rfl
theorem br_shut (ts : List Tk) (c : Int) : isP (brT ts c) (ts.length + 1) sgShut = true := by
  unfold isP
  have h : (brT ts c)[ts.length + 1]? = some ⟨3, sgShut, 0, c⟩ := by
    show (ts.map (shT 1) ++ [⟨3, sgShut, 0, c⟩])[ts.length]? = _
    rw [List.getElem?_append_right (by simp)]
    simp
  rw [h]
  rfl
/-- what a text with brackets around it comes to. -/
theorem br_prog {ts : List Tk} {en c en' : Int} {os : List Or} {ns : List Nd} (h : progP ts en = .ok (os, ns)) :
    (os ≠ [] → ∃ p, progP (brT ts c) en' = .error (403, p)) ∧ (os = [] → (progP (brT ts c) en' = .ok ([], ns.map (shN 1)) ∨ ∃ p, progP (brT ts c) en' = .error (401, p))) := by
  have hd0 : ∀ R, (declLoop (brT ts c) en' ((brT ts c).length + 1) [] ⟨0, []⟩ >>= R) = (R ([], ⟨0, []⟩) : Except PE (List Or × List Nd)) := fun R => by
    rw [declLoop, if_neg (by rw [br_isP]; decide)]
    rfl
  have hf0 : ∀ E : PS → Except PE (Nat × PS), firstP (brT ts c) en' E ⟨0, []⟩ = (E ⟨1, []⟩ >>= fun p => wantP (brT ts c) en' sgShut p.2 >>= fun s => .ok (p.1, s)) := fun E => by
    rw [brk_first (t := ⟨3, sgOpen, 0, 0⟩) rfl rfl rfl, brk_at (t := ⟨3, sgOpen, 0, 0⟩) rfl rfl rfl]
  have hi : ∀ u, isP (brT ts c) (0 : Nat) u = (sgOpen == u) := br_isP ts c
  unfold progP at h
  obtain ⟨⟨os1, s1⟩, h1, h2⟩ := ex_ok.1 h
  obtain ⟨⟨a, s2⟩, h3, h4⟩ := ex_ok.1 h2
  dsimp only at h3 h4
  split at h4
  · cases h4
  rename_i hlt
  injection h4 with h4
  injection h4 with h5 h6
  subst h5 h6
  rw [show progP (brT ts c) en' = (declLoop (brT ts c) en' ((brT ts c).length + 1) [] ⟨0, []⟩ >>= fun x => (exprP (brT ts c) en' 40 x.2 >>= fun y => if y.2.i < (brT ts c).length then .error (403, hereP (brT ts c) en' y.2.i) else .ok (x.1, y.2.ns))) from rfl, hd0]
  dsimp only
  by_cases hop : isP ts 0 kwOp = true
  · refine ⟨fun _ => ?_, fun hn => ?_⟩
    · have hl := isP_lt hop
      have ht : (brT ts c)[1]? = some (shT 1 ts[0]) := (br_emb ts c).get 0 _ (List.getElem?_eq_getElem hl)
      unfold isP at hop
      rw [List.getElem?_eq_getElem hl] at hop
      simp only [Bool.and_eq_true, Bool.or_eq_true, beq_iff_eq] at hop
      have he : exprP (brT ts c) en' 39 ⟨1, []⟩ = .error (403, hereP (brT ts c) en' 1) := op_err ht hop.1 hop.2
      have h40 : exprP (brT ts c) en' 40 ⟨0, []⟩ = .error (403, hereP (brT ts c) en' 1) := by
        refine open_first (by rw [hi]; decide) (by rw [hi]; decide) (by rw [hi]; decide) ?_
        rw [hf0, he]
        rfl
      exact ⟨_, by rw [h40]; rfl⟩
    · subst hn
      rw [declLoop, if_pos hop] at h1
      obtain ⟨⟨o2, s3⟩, h7, h8⟩ := ex_ok.1 h1
      obtain ⟨_, _, _, _, o, rfl, _⟩ := declP_ok h7
      have := declLoop_len _ _ _ _ _ h8
      simp at this
  · rw [declLoop, if_neg hop] at h1
    injection h1 with h1
    injection h1 with h7 h8
    subst h7 h8
    refine ⟨fun hn => absurd rfl hn, fun _ => ?_⟩
    have hem := expr_em (br_emb ts c) (en := en) (en' := en') 39 ⟨0, []⟩ ⟨1, []⟩ ⟨rfl, rfl, Nat.zero_le _⟩ _ h3
    rcases hem with ⟨⟨a', s'⟩, he, hva, hsi, hsn, hsl⟩ | ⟨p, he⟩
    · left
      dsimp only at hva hsi hsn hsl
      have hs2 : s2.i = ts.length := by omega
      have h40 : exprP (brT ts c) en' 40 ⟨0, []⟩ = .ok (a', ⟨s'.i + 1, s'.ns⟩) := by
        refine open_last (by rw [hi]; decide) (by rw [hi]; decide) (by rw [hi]; decide) ?_ ?_
        · rw [hf0, he]
          show (wantP (brT ts c) en' sgShut s' >>= fun s => .ok (a', s)) = _
          unfold wantP
          rw [if_pos (by rw [hsi, hs2]; exact br_shut ts c)]
          rfl
        · rw [br_len]; dsimp only; omega
      rw [h40]
      show (if s'.i + 1 < (brT ts c).length then _ else _) = _
      rw [if_neg (by rw [br_len]; omega), hsn]
    · right
      have h40 : exprP (brT ts c) en' 40 ⟨0, []⟩ = .error (401, p) := by
        refine open_first (by rw [hi]; decide) (by rw [hi]; decide) (by rw [hi]; decide) ?_
        rw [hf0, he]
        rfl
      exact ⟨p, by rw [h40]; rfl⟩
/-- the same, of texts. -/
theorem lexR_br {s : ByteArray} (hs : s.size ≤ 4093) (h0 : (lexR s).2.2 = 0) : lexR (⟨#[40]⟩ ++ (s ++ nlB ++ ⟨#[41]⟩)) = (brT (lexR s).1 (s.size + 2), 0, 0) := by
  have h1 : (⟨#[41]⟩ : ByteArray).size = 1 := rfl
  have h2 : (⟨#[40]⟩ : ByteArray).size = 1 := rfl
  have hj := lexR_join s ⟨#[41]⟩ (by omega)
  have hl : lexR ⟨#[41]⟩ = ([⟨3, sgShut, 0, 0⟩], 0, 0) := by decide +kernel
  rw [hl] at hj
  unfold joinR at hj
  rw [if_neg (by rw [h0]; decide), if_neg (by decide), if_pos h0, if_pos rfl] at hj
  have hxs : (s ++ nlB ++ ⟨#[41]⟩ : ByteArray).size = s.size + 2 := by rw [nl_whole, h1]
  obtain ⟨x, hx⟩ : ∃ x, (s ++ nlB ++ ⟨#[41]⟩ : ByteArray) = x := ⟨_, rfl⟩
  rw [hx] at hj hxs ⊢
  have hw : (⟨#[40]⟩ ++ x : ByteArray).size ≤ 4096 := by rw [app_size, h2]; omega
  have hv : (vaV x).2 = true := by
    cases hv : (vaV x).2
    · rw [lexR_form x (by omega) hv] at hj
      have := congrArg (fun q => q.2.2) hj
      simp at this
    · rfl
  have hva := vaV_app ⟨#[40]⟩ x (by decide +kernel)
  rw [hv] at hva
  simp only [if_true] at hva
  rw [lexR_ok _ (by omega) hv] at hj
  rw [lexR_ok _ hw (by rw [hva]), app_list]
  show lxAt (40 :: x.data.toList) 0 [] = _
  have hsk : skipF false (40 :: x.data.toList) = 0 := rfl
  have hff : firstF (40 :: x.data.toList) = (⟨3, sgOpen, 0, 0⟩, 1, 0) := by
    have hsg : signF (40 :: x.data.toList) = 1 := by
      cases hx : x.data.toList with
      | nil => rfl
      | cons d l =>
        show (if ((40 : UInt8) = 45 ∧ d = 62) ∨ ((40 : UInt8) = 61 ∧ d = 61) then 2 else if signL.contains 40 then 1 else 0) = 1
        rw [if_neg (by rintro (⟨h, _⟩ | ⟨h, _⟩) <;> exact absurd h (by decide)), if_pos (by decide)]
    unfold firstF
    simp only [show isL 40 = false from by decide, show isD 40 = false from by decide, Bool.false_eq_true, if_false, hsg, List.take_succ_cons, List.take_zero]
    rfl
  have hst := lxAt_step (l := 40 :: x.data.toList) (p := 0) (acc := []) (by rw [hsk]; simp) (by rw [hsk, List.drop_zero]; exact hff)
  rw [hst, hsk]
  have h3 := lxAt_sh 1 [⟨3, sgOpen, 0, 0⟩] _ x.data.toList (Nat.le_refl _) 0 []
  rw [hj, if_pos rfl] at h3
  show lxAt x.data.toList (0 + 1) ([⟨3, sgOpen, 0, 0⟩] ++ [].map (sh 1)) = _
  rw [h3]
  unfold brT
  rw [List.map_append]
  show (_ :: ((lexR s).1.map (shT 1) ++ [(⟨3, sgShut, 0, (0 : Int) + ((s.size + 1 : Nat) : Int) + 1⟩ : Tk)]), (0 : Int), (0 : Int)) = _
  rw [show (0 : Int) + ((s.size + 1 : Nat) : Int) + 1 = s.size + 2 by omega]
theorem parse_br {s : ByteArray} (hs : s.size ≤ 4093) {os : List Or} {ns : List Nd} (h : parseV s = .ok (os, ns)) :
    (os ≠ [] → ∃ p, parseV (⟨#[40]⟩ ++ (s ++ nlB ++ ⟨#[41]⟩)) = .error (403, p)) ∧ (os = [] → (parseV (⟨#[40]⟩ ++ (s ++ nlB ++ ⟨#[41]⟩)) = .ok ([], ns.map (shN 1)) ∨ ∃ p, parseV (⟨#[40]⟩ ++ (s ++ nlB ++ ⟨#[41]⟩)) = .error (401, p))) := by
  have h0 : (lexR s).2.2 = 0 := by
    by_cases h0 : (lexR s).2.2 = 0
    · exact h0
    · unfold parseV at h; rw [if_neg h0] at h; cases h
  have hp : progP (lexR s).1 s.size = .ok (os, ns) := by unfold parseV at h; rw [if_pos h0] at h; exact h
  have e : parseV (⟨#[40]⟩ ++ (s ++ nlB ++ ⟨#[41]⟩)) = progP (brT (lexR s).1 (s.size + 2)) ((⟨#[40]⟩ ++ (s ++ nlB ++ ⟨#[41]⟩) : ByteArray).size : Int) := by
    unfold parseV; rw [lexR_br hs h0]; rfl
  rw [e]
  exact br_prog hp
end Go.Proofs.YtidlljookjicpaaDoor

/- Texts of many like parts: what the lexer and the parser make of them. -/
namespace Go.Proofs.YtidlljookjicpaaDoor
open Go.RowKit
set_option linter.unusedVariables false
set_option linter.unusedSimpArgs false

section
variable {ts : List Tk} {en : Int} {E : PS → Except PE (Nat × PS)}
/-- nothing goes on here. -/
structure StopAt (ts : List Tk) (i : Nat) : Prop where
  s : startsP ts i = false
  o : ∀ u ∈ [sgMul, sgDiv, sgAdd, sgSub, sgEq2, sgLess], isP ts i u = false
theorem apply_stop {st0 st : PS} {a : Nat} (h : firstP ts en E st0 = .ok (a, st)) (hs : startsP ts st.i = false) : applyP ts en E st0 = .ok (a, st) := by
  unfold applyP
  rw [h]
  show appLoop ts en E _ (ts.length + 1) a st = _
  unfold appLoop
  rw [if_neg (by rw [hs]; decide)]
theorem rank_stop {st : PS} {a : Nat} {u v : List UInt8} {nu nv : Int} {o : PS → Except PE (Nat × PS)} (f : Nat) (hu : isP ts st.i u = false) (hv : isP ts st.i v = false) : rankLoop ts en u v nu nv o (f + 1) a st = .ok (a, st) := by
  unfold rankLoop
  rw [if_neg (by rw [hu]; decide), if_neg (by rw [hv]; decide)]
theorem product_stop {st0 st : PS} {a : Nat} (h : applyP ts en E st0 = .ok (a, st)) (hu : isP ts st.i sgMul = false) (hv : isP ts st.i sgDiv = false) : productP ts en E st0 = .ok (a, st) := by
  unfold productP
  rw [h]
  exact rank_stop _ hu hv
theorem sum_stop {st0 st : PS} {a : Nat} (h : productP ts en E st0 = .ok (a, st)) (hu : isP ts st.i sgAdd = false) (hv : isP ts st.i sgSub = false) : sumP ts en E st0 = .ok (a, st) := by
  unfold sumP
  rw [h]
  exact rank_stop _ hu hv
theorem compare_stop {st0 st : PS} {a : Nat} (h : sumP ts en E st0 = .ok (a, st)) (hu : isP ts st.i sgEq2 = false) (hv : isP ts st.i sgLess = false) : compareP ts en E st0 = .ok (a, st) := by
  unfold compareP
  rw [h]
  show (if isP ts st.i sgEq2 then _ else if isP ts st.i sgLess then _ else _) = _
  rw [if_neg (by rw [hu]; decide), if_neg (by rw [hv]; decide)]
theorem open_cmp {st : PS} (h0 : isP ts st.i kwFun = false) (h1 : isP ts st.i kwLet = false) (h2 : isP ts st.i kwIf = false) : openP ts en E st = compareP ts en E st := by
  unfold openP
  rw [if_neg (by rw [h0]; decide), if_neg (by rw [h1]; decide), if_neg (by rw [h2]; decide)]
theorem open_stop {st0 st : PS} (h0 : isP ts st0.i kwFun = false) (h1 : isP ts st0.i kwLet = false) (h2 : isP ts st0.i kwIf = false) {a : Nat} (h : firstP ts en E st0 = .ok (a, st)) (hs : StopAt ts st.i) : openP ts en E st0 = .ok (a, st) := by
  rw [open_cmp h0 h1 h2]
  exact compare_stop (sum_stop (product_stop (apply_stop h hs.s) (hs.o _ (by simp)) (hs.o _ (by simp))) (hs.o _ (by simp)) (hs.o _ (by simp))) (hs.o _ (by simp)) (hs.o _ (by simp))
theorem stop_end {i : Nat} (h : ts.length ≤ i) : StopAt ts i := ⟨starts_end h, fun u _ => isP_end h u⟩
theorem isP_tok {i : Nat} {t : Tk} (ht : ts[i]? = some t) (hk : t.kind = 2 ∨ t.kind = 3) (u : List UInt8) : isP ts i u = (t.text == u) := by
  unfold isP
  rw [ht]
  rcases hk with h | h <;> (dsimp only; rw [h]; rfl)
theorem isP_not {i : Nat} {t : Tk} (ht : ts[i]? = some t) (hk : t.kind = 0 ∨ t.kind = 1) (u : List UInt8) : isP ts i u = false := by
  unfold isP
  rw [ht]
  rcases hk with h | h <;> (dsimp only; rw [h]; rfl)
theorem starts_tok {i : Nat} {t : Tk} (ht : ts[i]? = some t) (hk : t.kind = 2 ∨ t.kind = 3) (hx : t.text ∈ [kwThen, kwElse, kwIn, sgShut, sgAdd]) : startsP ts i = false := by
  have hi := isP_tok ht hk
  unfold startsP
  simp only [ht, hi]
  have e0 : (t.kind == 0) = false := by rcases hk with h | h <;> rw [h] <;> rfl
  have e1 : (t.kind == 1) = false := by rcases hk with h | h <;> rw [h] <;> rfl
  rw [e0, e1]
  simp only [List.mem_cons, List.not_mem_nil, or_false] at hx
  rcases hx with h | h | h | h | h <;> rw [h] <;> decide
theorem stop_tok {i : Nat} {t : Tk} (ht : ts[i]? = some t) (hk : t.kind = 2 ∨ t.kind = 3) (hx : t.text ∈ [kwThen, kwElse, kwIn, sgShut]) : StopAt ts i := by
  refine ⟨starts_tok ht hk (by simp only [List.mem_cons, List.not_mem_nil, or_false] at hx ⊢; rcases hx with h | h | h | h <;> simp [h]), fun u hu => ?_⟩
  rw [isP_tok ht hk]
  simp only [List.mem_cons, List.not_mem_nil, or_false] at hx hu
  rcases hx with h | h | h | h <;> rcases hu with h' | h' | h' | h' | h' | h' <;> rw [h, h'] <;> decide
/-- a name or a number is an atom. -/
theorem first_atom {i : Nat} {ns : List Nd} {t : Tk} (ht : ts[i]? = some t) (hk : t.kind = 0 ∨ t.kind = 1) : ∃ x, firstP ts en E ⟨i, ns⟩ = putP ts en x ⟨i + 1, ns⟩ := by
  unfold firstP
  rw [isP_not ht hk, if_neg (by decide)]
  unfold atomP
  simp only [ht]
  rcases hk with h | h
  · rw [if_pos h]; exact ⟨_, rfl⟩
  · rw [if_neg (by rw [h]; decide), if_pos h]; exact ⟨_, rfl⟩
theorem open_atom {i : Nat} {ns : List Nd} {t : Tk} (ht : ts[i]? = some t) (hk : t.kind = 0 ∨ t.kind = 1) (hs : StopAt ts (i + 1)) (hl : ns.length < 512) : ∃ x, openP ts en E ⟨i, ns⟩ = .ok (ns.length, ⟨i + 1, ns ++ [x]⟩) := by
  obtain ⟨x, hx⟩ := first_atom (en := en) (E := E) (ns := ns) ht hk
  refine ⟨x, open_stop (isP_not ht hk _) (isP_not ht hk _) (isP_not ht hk _) ?_ hs⟩
  rw [hx]
  unfold putP
  rw [if_neg (by dsimp only; omega)]
end
/-- sums of ones. -/
def mR : Nat → List UInt8
  | 0 => []
  | m + 1 => [32, 43, 32, 49] ++ mR m
def mS : Nat → List UInt8
  | 0 => [49]
  | m + 1 => mS m ++ [32, 43, 32, 49]
theorem mR_snoc : ∀ m, mR m ++ [32, 43, 32, 49] = [32, 43, 32, 49] ++ mR m
  | 0 => rfl
  | m + 1 => by
    show ([32, 43, 32, 49] ++ mR m) ++ [32, 43, 32, 49] = [32, 43, 32, 49] ++ ([32, 43, 32, 49] ++ mR m)
    rw [List.append_assoc, mR_snoc m]
theorem mS_eq : ∀ m, mS m = 49 :: mR m
  | 0 => rfl
  | m + 1 => by
    show mS m ++ _ = 49 :: ([32, 43, 32, 49] ++ mR m)
    rw [mS_eq m, ← mR_snoc m]
    rfl
theorem mS_len : ∀ m, (mS m).length = 4 * m + 1
  | 0 => rfl
  | m + 1 => by
    show (mS m ++ _).length = _
    rw [List.length_append, mS_len m]
    simp; omega
def mK : Nat → Nat → List Tk
  | 0, _ => []
  | m + 1, p => ⟨3, sgAdd, 0, ((p + 1 : Nat) : Int)⟩ :: ⟨1, [], 1, ((p + 3 : Nat) : Int)⟩ :: mK m (p + 4)
theorem mK_len : ∀ m p, (mK m p).length = 2 * m
  | 0, _ => rfl
  | m + 1, p => by
    show (_ :: _ :: mK m (p + 4)).length = _
    simp only [List.length_cons, mK_len m]
    omega
theorem mK_odd : ∀ (m p j : Nat), j < m → (mK m p)[2 * j + 1]? = some ⟨1, [], 1, ((p + 4 * j + 3 : Nat) : Int)⟩
  | 0, _, j, h => by omega
  | m + 1, p, 0, _ => rfl
  | m + 1, p, j + 1, h => by
    rw [show 2 * (j + 1) + 1 = (2 * j + 1) + 1 + 1 by omega]
    show (mK m (p + 4))[2 * j + 1]? = _
    rw [mK_odd m (p + 4) j (by omega), show p + 4 + 4 * j + 3 = p + 4 * (j + 1) + 3 by omega]
theorem mK_even : ∀ (m p j : Nat), j < m → (mK m p)[2 * j]? = some ⟨3, sgAdd, 0, ((p + 4 * j + 1 : Nat) : Int)⟩
  | 0, _, j, h => by omega
  | m + 1, p, 0, _ => rfl
  | m + 1, p, j + 1, h => by
    rw [show 2 * (j + 1) = (2 * j) + 1 + 1 by omega]
    show (mK m (p + 4))[2 * j]? = _
    rw [mK_even m (p + 4) j (by omega), show p + 4 + 4 * j + 1 = p + 4 * (j + 1) + 1 by omega]
theorem first_one (m : Nat) : firstF (49 :: mR m) = (⟨1, [], 1, 0⟩, 1, 0) := by cases m <;> rfl
theorem lx_blank {q l : List UInt8} {p : Nat} {acc : List Tk} (hq : skipF false (q ++ l) = skipF false l + q.length) : lxAt (q ++ l) p acc = lxAt l (p + q.length) acc := by
  have hd : (q ++ l).drop (skipF false (q ++ l)) = l.drop (skipF false l) := by
    rw [hq, Nat.add_comm, List.drop_append]; simp
  by_cases h : l.drop (skipF false l) = []
  · rw [lxAt_end (by rw [hd]; exact h), lxAt_end h]
  · by_cases he : (firstF (l.drop (skipF false l))).2.2 = 0
    · obtain ⟨⟨t, n, er⟩, hf⟩ : ∃ r, firstF (l.drop (skipF false l)) = r := ⟨_, rfl⟩
      rw [hf] at he
      obtain rfl : er = 0 := he
      rw [lxAt_step (l := l) h hf, lxAt_step (l := q ++ l) (by rw [hd]; exact h) (by rw [hd]; exact hf), hd, hq]
      rw [show p + (skipF false l + q.length) = p + q.length + skipF false l by omega]
    · rw [lxAt_bad (by rw [hd]; exact h) (by rw [hd]; exact he), lxAt_bad h he, hd, hq]
      congr 2
      omega
/-- one token, and what is behind it. -/
theorem lx_tok {l r : List UInt8} {t : Tk} {n p : Nat} {acc : List Tk} (hs : skipF false l = 0) (hne : l ≠ []) (hf : firstF l = (t, n, 0)) (hr : l.drop n = r) : lxAt l p acc = lxAt r (p + n) (acc ++ [⟨t.kind, t.text, t.num, (p : Int)⟩]) := by
  rw [lxAt_step (by rw [hs]; exact hne) (by rw [hs, List.drop_zero]; exact hf), hs, List.drop_zero, hr]
  rfl
theorem lx_many : ∀ (m p : Nat) (acc : List Tk), lxAt (mR m) p acc = (acc ++ mK m p, 0, 0)
  | 0, p, acc => by rw [show mR 0 = [] from rfl, lxAt_nil]; simp [mK]
  | m + 1, p, acc => by
    show lxAt ([32] ++ (43 :: 32 :: 49 :: mR m)) p acc = _
    rw [lx_blank rfl, lx_tok (r := 32 :: 49 :: mR m) rfl (by simp) (show firstF (43 :: 32 :: 49 :: mR m) = (⟨3, sgAdd, 0, 0⟩, 1, 0) from rfl) rfl]
    show lxAt ([32] ++ (49 :: mR m)) (p + 1 + 1) _ = _
    rw [lx_blank rfl, lx_tok (r := mR m) rfl (by simp) (first_one m) rfl]
    show lxAt (mR m) (p + 1 + 1 + 1 + 1) _ = _
    rw [lx_many m]
    show (acc ++ [(⟨3, sgAdd, 0, ((p + 1 : Nat) : Int)⟩ : Tk)] ++ [(⟨1, [], 1, ((p + 1 + 1 + 1 : Nat) : Int)⟩ : Tk)] ++ mK m (p + 4), (0 : Int), (0 : Int)) = (acc ++ (⟨3, sgAdd, 0, ((p + 1 : Nat) : Int)⟩ :: ⟨1, [], 1, ((p + 3 : Nat) : Int)⟩ :: mK m (p + 4)), 0, 0)
    simp; omega
theorem bs_app (l r : List UInt8) : bs (l ++ r) = bs l ++ bs r := ba_ext (by simp [bs])
theorem va_many : ∀ m, (vaV (bs (mS m))).2 = true
  | 0 => by decide +kernel
  | m + 1 => by
    show (vaV (bs (mS m ++ [32, 43, 32, 49]))).2 = true
    rw [bs_app, vaV_app _ _ (va_many m), if_pos (by decide +kernel)]
theorem lexR_many (m : Nat) (hm : m ≤ 400) : lexR (bs (mS m)) = (⟨1, [], 1, 0⟩ :: mK m 1, 0, 0) := by
  rw [lexR_ok _ (by rw [bs_sizeL, mS_len]; omega) (va_many m)]
  show lxAt (mS m) 0 [] = _
  rw [mS_eq, lx_tok (r := mR m) rfl (by simp) (first_one m) rfl, lx_many]
  rfl
section
variable {ts : List Tk} {en : Int} {E : PS → Except PE (Nat × PS)} {m : Nat}
/-- ones, with signs between. -/
structure Alt (ts : List Tk) (m : Nat) : Prop where
  l : ts.length = 2 * m + 1
  o : ∀ j, j ≤ m → ∃ t, ts[2 * j]? = some t ∧ t.kind = 1
  s : ∀ j, j < m → ∃ t, ts[2 * j + 1]? = some t ∧ t.kind = 3 ∧ t.text = sgAdd ∧ 0 < t.at_
theorem Alt.sign (h : Alt ts m) {j : Nat} (hj : j ≤ m) : startsP ts (2 * j + 1) = false ∧ isP ts (2 * j + 1) sgMul = false ∧ isP ts (2 * j + 1) sgDiv = false ∧ isP ts (2 * j + 1) sgSub = false := by
  by_cases hlt : j < m
  · obtain ⟨t, h1, h2, h3, _⟩ := h.s j hlt
    exact ⟨starts_tok h1 (.inr h2) (by rw [h3]; simp), by rw [isP_tok h1 (.inr h2), h3]; decide, by rw [isP_tok h1 (.inr h2), h3]; decide, by rw [isP_tok h1 (.inr h2), h3]; decide⟩
  · have he : ts.length ≤ 2 * j + 1 := by rw [h.l]; omega
    exact ⟨starts_end he, isP_end he _, isP_end he _, isP_end he _⟩
theorem Alt.one (h : Alt ts m) {j : Nat} (hj : j ≤ m) {ns : List Nd} (hl : ns.length < 512) : ∃ x, productP ts en E ⟨2 * j, ns⟩ = .ok (ns.length, ⟨2 * j + 1, ns ++ [x]⟩) := by
  obtain ⟨t, h1, h2⟩ := h.o j hj
  obtain ⟨x, hx⟩ := first_atom (en := en) (E := E) (ns := ns) h1 (.inr h2)
  obtain ⟨g1, g2, g3, _⟩ := h.sign hj
  refine ⟨x, product_stop (apply_stop ?_ g1) g2 g3⟩
  rw [hx]
  unfold putP
  rw [if_neg (by dsimp only; omega)]
theorem Alt.here (h : Alt ts m) {j : Nat} (hj : j ≤ m) (hen : 0 < en) : 0 < hereP ts en (2 * j + 1) := by
  unfold hereP
  by_cases hlt : j < m
  · obtain ⟨t, h1, _, _, h4⟩ := h.s j hlt
    rw [h1]; exact h4
  · rw [List.getElem?_eq_none (by rw [h.l]; omega)]; exact hen
theorem Alt.loop_ok (h : Alt ts m) (hm : 2 * m + 1 ≤ 512) : ∀ (k j f l : Nat) (ns : List Nd), j + k = m → ns.length = 2 * j + 1 → k < f → ∃ r ns', rankLoop ts en sgAdd sgSub 0 1 (productP ts en E) f l ⟨2 * j + 1, ns⟩ = .ok (r, ⟨2 * m + 1, ns'⟩) ∧ ns'.length = 2 * m + 1
  | 0, j, 0, l, ns, _, _, hf => by omega
  | 0, j, f + 1, l, ns, hj, hn, _ => by
    obtain rfl : j = m := by omega
    exact ⟨l, ns, rank_stop f (isP_end (by rw [h.l]; exact Nat.le_refl _) _) (isP_end (by rw [h.l]; exact Nat.le_refl _) _), hn⟩
  | k + 1, j, 0, l, ns, _, _, hf => by omega
  | k + 1, j, f + 1, l, ns, hj, hn, hf => by
    obtain ⟨t, h1, h2, h3, _⟩ := h.s j (by omega)
    obtain ⟨x, hx⟩ := h.one (en := en) (E := E) (j := j + 1) (by omega) (ns := ns) (by omega)
    have hp : primP ts en 0 (hereP ts en (2 * j + 1)) l (productP ts en E) ⟨2 * j + 1 + 1, ns⟩ = putP ts en ⟨8, (l : Nat), (ns.length : Nat), 0, 0, ba0, ba0, ba0, ba0, hereP ts en (2 * j + 1)⟩ ⟨2 * (j + 1) + 1, ns ++ [x]⟩ := by
      unfold primP
      rw [show 2 * j + 1 + 1 = 2 * (j + 1) by omega, hx]
      rfl
    rw [rankLoop, if_pos (by rw [isP_tok h1 (.inr h2), h3]; decide)]
    dsimp only
    rw [hp]
    unfold putP
    rw [if_neg (by simp only [List.length_append, List.length_singleton]; omega)]
    exact h.loop_ok hm k (j + 1) f _ _ (by omega) (by simp only [List.length_append, List.length_singleton]; omega) (by omega)
theorem Alt.loop_bad (h : Alt ts m) (hen : 0 < en) (hm : 512 < 2 * m + 1) : ∀ (k j f l : Nat) (ns : List Nd), j + k = m → ns.length = 2 * j + 1 → 2 * j + 1 ≤ 511 → k < f → ∃ p, rankLoop ts en sgAdd sgSub 0 1 (productP ts en E) f l ⟨2 * j + 1, ns⟩ = .error (402, p) ∧ 0 < p
  | 0, j, f, l, ns, hj, _, hl, _ => by omega
  | k + 1, j, 0, l, ns, _, _, _, hf => by omega
  | k + 1, j, f + 1, l, ns, hj, hn, hl, hf => by
    obtain ⟨t, h1, h2, h3, _⟩ := h.s j (by omega)
    obtain ⟨x, hx⟩ := h.one (en := en) (E := E) (j := j + 1) (by omega) (ns := ns) (by omega)
    have hp : primP ts en 0 (hereP ts en (2 * j + 1)) l (productP ts en E) ⟨2 * j + 1 + 1, ns⟩ = putP ts en ⟨8, (l : Nat), (ns.length : Nat), 0, 0, ba0, ba0, ba0, ba0, hereP ts en (2 * j + 1)⟩ ⟨2 * (j + 1) + 1, ns ++ [x]⟩ := by
      unfold primP
      rw [show 2 * j + 1 + 1 = 2 * (j + 1) by omega, hx]
      rfl
    rw [rankLoop, if_pos (by rw [isP_tok h1 (.inr h2), h3]; decide)]
    dsimp only
    rw [hp]
    unfold putP
    by_cases hlt : 512 ≤ (ns ++ [x]).length
    · rw [if_pos hlt]
      exact ⟨_, rfl, h.here (by omega) hen⟩
    · rw [if_neg hlt]
      simp only [List.length_append, List.length_singleton] at hlt
      exact h.loop_bad hen hm k (j + 1) f _ _ (by omega) (by simp only [List.length_append, List.length_singleton]; omega) (by omega) (by omega)
theorem Alt.sum0 (h : Alt ts m) {x : Nd} (hx : productP ts en E ⟨0, []⟩ = .ok (0, ⟨1, [x]⟩)) : sumP ts en E ⟨0, []⟩ = rankLoop ts en sgAdd sgSub 0 1 (productP ts en E) (ts.length + 1) 0 ⟨2 * 0 + 1, [x]⟩ := by
  unfold sumP
  rw [hx]
  rfl
theorem Alt.prog_ok (h : Alt ts m) (hm : 2 * m + 1 ≤ 512) : ∃ ns, progP ts en = .ok ([], ns) ∧ ns.length = 2 * m + 1 := by
  obtain ⟨t, h1, h2⟩ := h.o 0 (by omega)
  have hn := isP_not h1 (.inr h2)
  obtain ⟨x, hx⟩ := h.one (en := en) (E := exprP ts en 39) (j := 0) (by omega) (ns := []) (by decide)
  obtain ⟨r, ns', hl, hlen⟩ := h.loop_ok (en := en) (E := exprP ts en 39) hm m 0 (ts.length + 1) 0 [x] (by omega) rfl (by rw [h.l]; omega)
  rw [← h.sum0 hx] at hl
  have he : exprP ts en 40 ⟨0, []⟩ = .ok (r, ⟨2 * m + 1, ns'⟩) := by
    show openP ts en (exprP ts en 39) ⟨0, []⟩ = _
    rw [open_cmp (hn _) (hn _) (hn _)]
    exact compare_stop hl (isP_end (by rw [h.l]; exact Nat.le_refl _) _) (isP_end (by rw [h.l]; exact Nat.le_refl _) _)
  refine ⟨ns', ?_, hlen⟩
  unfold progP
  rw [declLoop, if_neg (by have := hn kwOp; rw [show 2 * 0 = 0 from rfl] at this; rw [this]; decide)]
  show ((exprP ts en 40 ⟨0, []⟩) >>= _) = _
  rw [he]
  show (if 2 * m + 1 < ts.length then _ else _) = _
  rw [if_neg (by rw [h.l]; omega)]
theorem Alt.prog_bad (h : Alt ts m) (hen : 0 < en) (hm : 512 < 2 * m + 1) : ∃ p, progP ts en = .error (402, p) ∧ 0 < p := by
  obtain ⟨t, h1, h2⟩ := h.o 0 (by omega)
  have hn := isP_not h1 (.inr h2)
  obtain ⟨x, hx⟩ := h.one (en := en) (E := exprP ts en 39) (j := 0) (by omega) (ns := []) (by decide)
  obtain ⟨p, hl, hp⟩ := h.loop_bad (en := en) (E := exprP ts en 39) hen hm m 0 (ts.length + 1) 0 [x] (by omega) rfl (by decide) (by rw [h.l]; omega)
  rw [← h.sum0 hx] at hl
  have he : exprP ts en 40 ⟨0, []⟩ = .error (402, p) := by
    show openP ts en (exprP ts en 39) ⟨0, []⟩ = _
    rw [open_cmp (hn _) (hn _) (hn _)]
    unfold compareP
    rw [hl]
    rfl
  refine ⟨p, ?_, hp⟩
  unfold progP
  rw [declLoop, if_neg (by have := hn kwOp; rw [show 2 * 0 = 0 from rfl] at this; rw [this]; decide)]
  show ((exprP ts en 40 ⟨0, []⟩) >>= _) = _
  rw [he]
  rfl
end
theorem alt_many (m : Nat) : Alt (⟨1, [], 1, 0⟩ :: mK m 1) m := by
  refine ⟨by simp only [List.length_cons, mK_len], fun j hj => ?_, fun j hj => ?_⟩
  · cases j with
    | zero => exact ⟨_, rfl, rfl⟩
    | succ j =>
      refine ⟨⟨1, [], 1, ((1 + 4 * j + 3 : Nat) : Int)⟩, ?_, rfl⟩
      rw [show 2 * (j + 1) = 2 * j + 1 + 1 by omega, List.getElem?_cons_succ, mK_odd m 1 j (by omega)]
  · refine ⟨⟨3, sgAdd, 0, ((1 + 4 * j + 1 : Nat) : Int)⟩, ?_, rfl, rfl, by show (0 : Int) < ((1 + 4 * j + 1 : Nat) : Int); omega⟩
    rw [List.getElem?_cons_succ, mK_even m 1 j hj]
theorem parse_many (m : Nat) (hm : m ≤ 400) : (2 * m + 1 ≤ 512 → ∃ ns, parseV (bs (mS m)) = .ok ([], ns) ∧ ns.length = 2 * m + 1) ∧ (512 < 2 * m + 1 → ∃ p, parseV (bs (mS m)) = .error (402, p) ∧ 0 < p) := by
  have e : parseV (bs (mS m)) = progP (⟨1, [], 1, 0⟩ :: mK m 1) ((bs (mS m)).size : Int) := by
    unfold parseV; rw [lexR_many m hm]; rfl
  rw [e]
  exact ⟨fun h => (alt_many m).prog_ok h, fun h => (alt_many m).prog_bad (by rw [bs_sizeL, mS_len]; omega) h⟩
end Go.Proofs.YtidlljookjicpaaDoor
