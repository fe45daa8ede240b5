/- Tidying: a tree's parts. Plain. -/
import Derived.Test.YthpcbgljbpmafaaGreatDoorU4
import Derived.Test.YthpcbgljbpmafaaGreatDoorU5
import Derived.Test.YthpcbgljbpmafaaGreatDoorU9
import Derived.Test.YthpcbgljbpmafaaGreatDoorU17
import Derived.Test.YthpcbgljbpmafaaGreatDoorU22
import Derived.Test.YthpcbgljbpmafaaGreatDoorU23
import Derived.Test.YthpcbgljbpmafaaGreatDoorU24
import Derived.Test.YthpcbgljbpmafaaGreatDoorU25
import Derived.Test.YthpcbgljbpmafaaGreatDoorU30
import Derived.Test.YthpcbgljbpmafaaGreatDoorU31
import Derived.Test.YthpcbgljbpmafaaGreatDoorU36
import Derived.BigQuiet
import Derived.Deep.RegionWith
import Derived.Test.YthpcbgljbpmafaaGreatDoorRows
import Derived.LaidLaws
import Derived.LaidHandle
import Derived.Stop.Joined
set_option maxRecDepth 100000
set_option maxHeartbeats 8000000
namespace Go.Proofs.YthpcbgljbpmafaaGreatDoor
set_option linter.unusedVariables false
set_option linter.unusedSimpArgs false
theorem ok_kind {ok : Nd → Bool} {t : Nd} (h : okNd ok t = true) : t.k = 0 ∨ t.k = 1 ∨ t.k = 2 ∨ t.k = 3 ∨ t.k = 4 ∨ t.k = 5 ∨ t.k = 6 ∨ t.k = 7 ∨ t.k = 8 ∨ t.k = 9 ∨ t.k = 10 := by
 unfold okNd at h
 simp only [Bool.and_eq_true] at h
 have h := h.1.1.1.1
 by_cases h0 : t.k = 0 ∨ t.k = 1 ∨ t.k = 2 ∨ t.k = 3 ∨ t.k = 4 ∨ t.k = 5 ∨ t.k = 6 ∨ t.k = 7 ∨ t.k = 8 ∨ t.k = 9
 ·omega
 ·unfold plainB at h
  rw [if_neg (by omega), if_neg (by omega), if_neg (by omega), if_neg (by omega), if_neg (by omega), if_neg (by omega), if_neg (by omega), if_neg (by omega), if_neg (by omega), decide_eq_true_eq] at h
  omega
theorem ok_int {ok : Nd → Bool} {t : Nd} (h : okNd ok t = true) : (t.k = 1 → 0 ≤ t.n ∧ t.n ≤ 1073741823) ∧ (t.k = 8 → 0 ≤ t.n ∧ t.n ≤ 5) := by
 unfold okNd at h
 simp only [Bool.and_eq_true] at h
 have h := h.1.2
 unfold numB at h
 constructor
 ·intro hk
  rw [if_pos hk, decide_eq_true_eq] at h
  exact h
 ·intro hk
  rw [if_neg (by omega), if_neg (by omega), if_pos hk, decide_eq_true_eq] at h
  exact h
structure Tre (ts : List Nd) : Prop where
 len : 0 < ts.length ∧ ts.length ≤ 512
 ok : ∀ t ∈ ts, t.k = 0 ∨ t.k = 1 ∨ t.k = 2 ∨ t.k = 3 ∨ t.k = 4 ∨ t.k = 5 ∨ t.k = 6 ∨ t.k = 7 ∨ t.k = 8 ∨ t.k = 9 ∨ t.k = 10
 int : IntOk ts
 prim : ∀ t ∈ ts, t.k = 8 → 0 ≤ t.n ∧ t.n ≤ 5
 bgs : ∀ i, i < ts.length → 0 ≤ bg (ksN ts) i
theorem tre_of {ok : Nd → Bool} {ts : List Nd} (h : treeV ok ts = true) : Tre ts := by
 unfold treeV at h
 simp only [Bool.and_eq_true, List.all_eq_true, decide_eq_true_eq] at h
 obtain ⟨⟨hl, ha⟩, hb⟩ := h
 exact ⟨⟨by omega, hl.2⟩, fun t ht => ok_kind (ha t ht), fun t ht => (ok_int (ha t ht)).1, fun t ht => (ok_int (ha t ht)).2, fun i hi => bg_all hb i (by omega)⟩
theorem Tre.mem {ts : List Nd} {i : Nat} (hi : i < ts.length) : ts.getD i nd0 ∈ ts := by
 rw [List.getD_eq_getElem?_getD, List.getElem?_eq_getElem hi]; exact List.getElem_mem hi
theorem Tre.kids {ts : List Nd} (h : Tre ts) {i : Nat} (hi : i < ts.length) :
  let x := ts.getD i nd0
  (¬ (x.k = 0 ∨ x.k = 1 ∨ x.k = 2) → ∃ a : Nat, x.a = a ∧ a < i ∧ bg (ksN ts) a = bg (ksN ts) i ∧
   ((x.k = 3 ∨ x.k = 9) ∧ a + 1 = i ∨ ¬ (x.k = 3 ∨ x.k = 9) ∧ ∃ b : Nat, x.b = b ∧ b < i ∧ a < b ∧ bg (ksN ts) b = (a : Int) + 1 ∧
    ((x.k = 7 ∨ x.k = 10) ∧ (∃ c : Nat, x.c = c ∧ c < i ∧ b < c ∧ bg (ksN ts) c = (b : Int) + 1 ∧ c + 1 = i) ∨ ¬ (x.k = 7 ∨ x.k = 10) ∧ b + 1 = i))) := by
 intro x hx
 have hk := h.ok _ (Tre.mem hi)
 have hs := seg_bg (ksN ts) i (h.bgs i hi)
 have e : ksN ts i = kidsL x.k x.a x.b x.c := rfl
 have hk : x.k = 0 ∨ x.k = 1 ∨ x.k = 2 ∨ x.k = 3 ∨ x.k = 4 ∨ x.k = 5 ∨ x.k = 6 ∨ x.k = 7 ∨ x.k = 8 ∨ x.k = 9 ∨ x.k = 10 := hk
 rw [e] at hs
 clear e
 by_cases k3 : x.k = 3 ∨ x.k = 9
 ·have e : kidsL x.k x.a x.b x.c = [x.a] := by unfold kidsL; rw [if_pos k3]
  rw [e] at hs
  obtain ⟨h0, h1, h2⟩ := hs
  have h2 : x.a + 1 = (i : Int) := h2
  obtain ⟨a, ha⟩ := Int.eq_ofNat_of_zero_le h0
  rw [ha] at h1 h2
  exact ⟨a, ha, by omega, h1, .inl ⟨k3, by omega⟩⟩
 by_cases k4 : x.k = 4 ∨ x.k = 5 ∨ x.k = 6 ∨ x.k = 8
 ·have e : kidsL x.k x.a x.b x.c = [x.a, x.b] := by unfold kidsL; rw [if_neg k3, if_pos k4]
  rw [e] at hs
  obtain ⟨h0, h1, g0, g1, g2⟩ := hs
  have g2 : x.b + 1 = (i : Int) := g2
  obtain ⟨a, ha⟩ := Int.eq_ofNat_of_zero_le h0
  obtain ⟨b, hb⟩ := Int.eq_ofNat_of_zero_le g0
  rw [ha] at h1 g1
  rw [hb] at g1 g2
  have hl := bg_le (ksN ts) b
  have g1 : bg (ksN ts) b = (a : Int) + 1 := g1
  exact ⟨a, ha, by omega, h1, .inr ⟨k3, b, hb, by omega, by omega, g1, .inr ⟨by omega, by omega⟩⟩⟩
 ·have k7 : x.k = 7 ∨ x.k = 10 := by omega
  have e : kidsL x.k x.a x.b x.c = [x.a, x.b, x.c] := by unfold kidsL; rw [if_neg k3, if_neg k4, if_pos k7]
  rw [e] at hs
  obtain ⟨h0, h1, g0, g1, f0, f1, f2⟩ := hs
  have f2 : x.c + 1 = (i : Int) := f2
  obtain ⟨a, ha⟩ := Int.eq_ofNat_of_zero_le h0
  obtain ⟨b, hb⟩ := Int.eq_ofNat_of_zero_le g0
  obtain ⟨c, hc⟩ := Int.eq_ofNat_of_zero_le f0
  rw [ha] at h1 g1
  rw [hb] at g1 f1
  rw [hc] at f1 f2
  have hl := bg_le (ksN ts) b
  have hl2 := bg_le (ksN ts) c
  have g1 : bg (ksN ts) b = (a : Int) + 1 := g1
  have f1 : bg (ksN ts) c = (b : Int) + 1 := f1
  exact ⟨a, ha, by omega, h1, .inr ⟨k3, b, hb, by omega, by omega, g1, .inl ⟨k7, c, hc, by omega, by omega, f1, by omega⟩⟩⟩
theorem Tre.kidB {ts : List Nd} (h : Tre ts) {i : Nat} (hi : i < ts.length) : KidB ts i := by
 have hk := h.kids hi
 dsimp only at hk
 unfold KidB
 generalize ts.getD i nd0 = x at hk ⊢
 refine ⟨fun hx => ?_, fun hx h3 => ?_, fun h7 => ?_⟩
 ·obtain ⟨a, ha, h1, _⟩ := hk hx; rw [ha]; simpa using h1
 ·obtain ⟨a, ha, h1, _, h2⟩ := hk hx
  rcases h2 with h2 | ⟨_, b, hb, h4, _⟩
  ·exact absurd h2.1 h3
  ·rw [hb]; simpa using h4
 ·obtain ⟨a, ha, h1, _, h2⟩ := hk (by omega)
  rcases h2 with h2 | ⟨_, b, hb, h4, _, _, h5⟩
  ·omega
  ·rcases h5 with ⟨_, c, hc, h6, _⟩ | h5
   ·rw [hc]; simpa using h6
   ·exact absurd h7 h5.1
theorem tdS_len {e : Nat → List Nd → List Nd} {x : Nd} {A B C : Nat} (ha : ∀ m, (e x.a.toNat m).length ≤ m.length + A) (hb : ¬ (x.k = 3 ∨ x.k = 9) → ∀ m, (e x.b.toNat m).length ≤ m.length + B) (hc : x.k = 7 ∨ x.k = 10 → ∀ m, (e x.c.toNat m).length ≤ m.length + C) (hk : ¬ (x.k = 0 ∨ x.k = 1 ∨ x.k = 2)) (m : List Nd) :
  (tdS e x m).length ≤ m.length + (A + 1 + (if x.k = 3 ∨ x.k = 9 then 0 else B) + (if x.k = 7 ∨ x.k = 10 then C else 0)) := by
 unfold tdS
 rw [if_neg hk]
 dsimp only
 have a1 := ha m
 by_cases k3 : x.k = 3 ∨ x.k = 9
 ·rw [if_pos k3, if_pos k3]; simp only [List.length_append, List.length_singleton]; omega
 rw [if_neg k3, if_neg k3]
 by_cases k7 : x.k = 7 ∨ x.k = 10
 ·rw [if_pos k7, if_pos k7]
  have b1 := hb k3 (e x.a.toNat m)
  have c1 := hc k7 (e x.b.toNat (e x.a.toNat m))
  have b2 := hb k3 ((e x.a.toNat m).take (lstI (e x.a.toNat m)))
  have c2 := hc k7 ((e x.a.toNat m).take (lstI (e x.a.toNat m)))
  rw [List.length_take] at b2 c2
  split
  ·split <;> omega
  ·simp only [List.length_append, List.length_singleton]; omega
 ·rw [if_neg k7, if_neg k7, if_neg (show ¬ (x.k = 7 ∧ ((e x.a.toNat m).getD (lstI (e x.a.toNat m)) nd0).k = 2) from fun h => k7 (.inl h.1))]
  have b1 := hb k3 (e x.a.toNat m)
  split
  ·split
   ·simp only [List.length_append, List.length_singleton, List.length_take]; omega
   ·simp only [List.length_append, List.length_singleton]; omega
  ·simp only [List.length_append, List.length_singleton]; omega
theorem td_len {ts : List Nd} (h : Tre ts) : ∀ (i : Nat), i < ts.length → ∀ m, ((td ts i m).length : Int) ≤ m.length + (i + 1 - bg (ksN ts) i) := by
 intro i
 induction i using Nat.strongRecOn with
 | ind i ih =>
  intro hi m
  have hkb := fun j hj => h.kidB (i := j) hj
  rw [td_eq ts hkb i hi]
  have hk := h.kids hi
  dsimp only at hk
  have hle := bg_le (ksN ts) i
  obtain ⟨x, hx⟩ : ∃ x, ts.getD i nd0 = x := ⟨_, rfl⟩
  rw [hx] at hk ⊢
  by_cases k0 : x.k = 0 ∨ x.k = 1 ∨ x.k = 2
  ·unfold tdS; rw [if_pos k0]; simp only [List.length_append, List.length_singleton]; omega
  obtain ⟨a, ha, h1, h2, h3⟩ := hk k0
  have bd : ∀ j : Nat, j < i → ∀ m, (td ts j m).length ≤ m.length + ((j : Int) + 1 - bg (ksN ts) j).toNat := fun j hj m => by
   have := ih j hj (by omega) m
   have := bg_le (ksN ts) j
   omega
  rcases h3 with ⟨k3, h3⟩ | ⟨k3, b, hb, h4, h5, h6, h7⟩
  ·have := tdS_len (e := td ts) (x := x) (A := ((a : Int) + 1 - bg (ksN ts) a).toNat) (B := 0) (C := 0) (by rw [ha]; exact bd a h1) (fun h => absurd k3 h) (fun h => by omega) k0 m
   rw [if_pos k3, if_neg (show ¬ (x.k = 7 ∨ x.k = 10) by omega)] at this
   have := bg_le (ksN ts) a
   omega
  ·have hla := bg_le (ksN ts) a
   have hlb := bg_le (ksN ts) b
   rcases h7 with ⟨k7, c, hc, h8, h9, h10, h11⟩ | ⟨k7, h8⟩
   ·have hlc := bg_le (ksN ts) c
    have := tdS_len (e := td ts) (x := x) (A := ((a : Int) + 1 - bg (ksN ts) a).toNat) (B := ((b : Int) + 1 - bg (ksN ts) b).toNat) (C := ((c : Int) + 1 - bg (ksN ts) c).toNat) (by rw [ha]; exact bd a h1) (fun _ => by rw [hb]; exact bd b h4) (fun _ => by rw [hc]; exact bd c h8) k0 m
    rw [if_neg k3, if_pos k7] at this
    omega
   ·have := tdS_len (e := td ts) (x := x) (A := ((a : Int) + 1 - bg (ksN ts) a).toNat) (B := ((b : Int) + 1 - bg (ksN ts) b).toNat) (C := 0) (by rw [ha]; exact bd a h1) (fun _ => by rw [hb]; exact bd b h4) (fun h => absurd h k7) k0 m
    rw [if_neg k3, if_neg k7] at this
    omega
theorem td_le {ts : List Nd} (h : Tre ts) (i : Nat) (hi : i < ts.length) (m : List Nd) : (td ts i m).length ≤ m.length + (i + 1) := by
 have := td_len h i hi m
 have := h.bgs i hi
 omega
open Go.RowKit
theorem ok_bareB {t : Nd} (h : okNd (okNm false) t = true) : bareB t = true := by
 unfold okNd at h
 simp only [Bool.and_eq_true] at h
 obtain ⟨⟨⟨⟨h1, _⟩, _⟩, _⟩, h5⟩ := h
 unfold okNm resB namesL at h5
 unfold plainB at h1
 unfold bareB
 simp only [Bool.false_eq_true, if_false] at h5
 simp only [Bool.and_eq_true, beq_iff_eq]
 by_cases k0 : t.k = 0
 ·simp only [k0, true_or, if_true, List.all_cons, List.all_nil, Bool.and_true, decide_eq_true_eq] at h1 h5
  simp_all
 by_cases k1 : t.k = 1 ∨ t.k = 2
 ·rw [if_neg k0, if_pos k1] at h1; simp only [decide_eq_true_eq] at h1; simp_all
 by_cases k3 : t.k = 3
 ·simp only [k3] at h1 h5; simp at h1 h5; simp_all
 by_cases k4 : t.k = 4
 ·simp only [k4] at h1 h5; simp at h1 h5; simp_all
 by_cases k5 : t.k = 5
 ·simp only [k5] at h1 h5; simp at h1 h5; simp_all
 by_cases k6 : t.k = 6
 ·simp only [k6] at h1 h5; simp at h1 h5; simp_all
 by_cases k7 : t.k = 7
 ·simp only [k7] at h1 h5; simp at h1 h5; simp_all
 by_cases k8 : t.k = 8
 ·simp only [k8] at h1 h5; simp at h1 h5; simp_all
 by_cases k9 : t.k = 9
 ·simp only [k9] at h1 h5; simp at h1 h5; simp_all
 ·rw [if_neg k0, if_neg k1, if_neg k3, if_neg k4, if_neg k5, if_neg k6, if_neg k7, if_neg k8, if_neg k9] at h1
  have k10 : t.k = 10 := of_decide_eq_true h1
  simp only [k10] at h5; simp at h5; simp_all
theorem nm_nil {s : ByteArray} (h : s.toList = []) : nmB s.data.toList = false := by
 rw [ByteArray.toList_eq] at h; rw [h]; rfl
theorem ok_named {t : Nd} (h : okNd (okNm true) t = true) (hb : bareB t = true) : okNd (okNm false) t = true := by
 unfold okNd at h ⊢
 unfold bareB at hb
 simp only [Bool.and_eq_true, beq_iff_eq] at h hb ⊢
 obtain ⟨h1, h5⟩ := h
 refine ⟨h1, ?_⟩
 obtain ⟨b1, b2, b3, b4⟩ := hb
 unfold okNm namedB namesL at h5
 unfold okNm resB namesL
 simp only [if_true, Bool.false_eq_true, if_false, Bool.and_eq_true] at h5 ⊢
 have h6 := h5.2
 clear h5
 by_cases k0 : t.k = 0 ∨ t.k = 9
 ·rw [if_pos k0] at h6; simp only [List.all_cons, nm_nil b1, Bool.false_and] at h6; cases h6
 ·rw [if_neg k0] at h6 ⊢
  by_cases k3 : t.k = 3 ∨ t.k = 5
  ·rw [if_pos k3] at h6; simp only [List.all_cons, nm_nil b2, Bool.false_and] at h6; cases h6
  ·rw [if_neg k3] at h6 ⊢
   by_cases k6 : t.k = 6
   ·rw [if_pos k6] at h6; simp only [List.all_cons, nm_nil b2, Bool.false_and] at h6; cases h6
   ·rw [if_neg k6] at h6 ⊢
    by_cases k10 : t.k = 10
    ·rw [if_pos k10] at h6; simp only [List.all_cons, nm_nil b1, Bool.false_and] at h6; cases h6
    ·rw [if_neg k10]; rfl
theorem has_bare (ts : List Nd) : (hasV ts 0 && ts.all bareB) = treeV (okNm false) ts := by
 rw [Bool.eq_iff_iff, Bool.and_eq_true]
 constructor
 ·rintro ⟨h1, h2⟩
  unfold hasV anyV at h1
  simp only [Bool.and_eq_true, Bool.or_eq_true] at h1
  rcases h1.2 with h | h
  ·unfold treeV at h ⊢
   simp only [Bool.and_eq_true, List.all_eq_true] at h h2 ⊢
   exact ⟨⟨h.1.1, fun t ht => ok_named (h.1.2 t ht) (h2 t ht)⟩, h.2⟩
  ·exact h
 ·intro h
  have hh := h
  unfold treeV at h
  simp only [Bool.and_eq_true, List.all_eq_true, decide_eq_true_eq] at h
  refine ⟨?_, by rw [List.all_eq_true]; exact fun t ht => ok_bareB (h.1.2 t ht)⟩
  unfold hasV anyV
  rw [hh, Bool.or_true, Bool.and_true, decide_eq_true_eq]
  omega
theorem smay_r (os : List Or) (ts : List Nd) : smayV os ts = (opsV os && (treeV (okNm false) ts && (!dupB (opN os) && numsV os.length ts.length ts (ts.length - 1) 0))) := by
 unfold smayV
 rw [← Bool.and_assoc (hasV ts 0), has_bare]
 cases opsV os <;> cases dupB (opN os) <;> cases treeV (okNm false) ts <;> simp
open Go.RowKit
open Go.RowKit
theorem owns_mono {w : World} {B B' : Nat} {e : TypeId} {s : Nat} {v : Value} {n : Nat} {xs : List Value} (h : w.ownsRow B e s v n xs) (hb : B' ≤ B) : w.ownsRow B' e s v n xs := by
 refine ⟨h.1, ?_⟩
 rcases h.2 with h0 | ⟨g, cap, cur, rfl, hB, rest⟩
 ·exact .inl h0
 ·exact .inr ⟨g, cap, cur, rfl, Nat.le_trans hb hB, rest⟩
def PrR (R : Except PE (List Or × List Nd)) (ov nv : Value) (os : List Or) (ns : List Nd) (pl er : Int) : Prop := match R with
 | .ok p => os = p.1 ∧ ns = p.2 ∧ pl = 0 ∧ er = 0
 | .error x => ov = .slice none 0 0 ∧ nv = .slice none 0 0 ∧ os = [] ∧ ns = [] ∧ pl = x.2 ∧ er = x.1
def PrP (R : Except PE (List Or × List Nd)) (w : World) (e : Ending) (w' : World) : Prop := ∃ ov nv os ns pl er, e = .returned (.tuple #[.agg #[ov, nv], .int .i64 pl, .int .i64 er]) ∧ OwnO w.heap.size w' ov os ∧ OwnN w.heap.size w' nv ns ∧ Below w.heap.size w w' ∧ PrR R ov nv os ns pl er
theorem prp_ok {R : Except PE (List Or × List Nd)} {w w' : World} {e : Ending} {os : List Or} {ns : List Nd} (h : PrP R w e w') (hr : R = .ok (os, ns)) : ∃ a c a2 c2, e = .returned (.tuple #[.agg #[.slice a os.length c, .slice a2 ns.length c2], .int .i64 0, .int .i64 0]) ∧ Below w.heap.size w w' ∧ OwnO w.heap.size w' (.slice a os.length c) os ∧ OwnN w.heap.size w' (.slice a2 ns.length c2) ns := by
 subst hr
 obtain ⟨ov, nv, os, ns, pl, er, rfl, ho, hn, hb, rfl, rfl, rfl, rfl⟩ := h
 obtain ⟨a, c, rfl⟩ := owno_sl ho
 obtain ⟨a2, c2, rfl⟩ := own_sl hn
 exact ⟨a, c, a2, c2, rfl, hb, ho, hn⟩
structure KX (w : World) (P : Nat) (X : World) : Prop where
 b : Bar (fun k => k = P) w X
 c0 : X.cell? ⟨P, 0, none⟩ = some (.slice none 0 0)
 c1 : X.cell? ⟨P, 1, none⟩ = some (.slice none 0 0)
 f : ∀ o, X.frozen? ⟨P, o, none⟩ = false
theorem KX.drew {w X : World} {P : Nat} (h : KX w P X) : KX w P X.drew := ⟨h.b.next ((Below.refl _ _).drew), h.c0, h.c1, h.f⟩
theorem KX.set0 {w X : World} {P : Nat} (h : KX w P X) : KX w P (X.setCell ⟨P, 0, none⟩ (.slice none 0 0)) := ⟨h.b.trans (Bar.set (S := fun k => k = P) ⟨P, 0, none⟩ _ rfl) fun _ _ hs => hs, setS h.c0, setO h.c1 (by simp), fun o => by simp only [World.frozen?_setCell]; exact h.f o⟩
theorem KX.set1 {w X : World} {P : Nat} (h : KX w P X) : KX w P (X.setCell ⟨P, 1, none⟩ (.slice none 0 0)) := ⟨h.b.trans (Bar.set (S := fun k => k = P) ⟨P, 1, none⟩ _ rfl) fun _ _ hs => hs, setO h.c0 (by simp), setS h.c1, fun o => by simp only [World.frozen?_setCell]; exact h.f o⟩
theorem KX.next {w X Y : World} {P : Nat} (h : KX w P X) (hP : P < X.heap.size) (hb : Below X.heap.size X Y) : KX w P Y := ⟨h.b.next hb, carry hb hP h.c0, carry hb hP h.c1, fun o => (hb.frozen (p := ⟨P, o, none⟩) hP).trans (h.f o)⟩
open Go.RowKit
open Go.RowKit
structure PrK (n : Nat) (os : List Or) (ns : List Nd) : Prop where
 sz : ∀ t ∈ ns, NdSz t
 oz : ∀ o ∈ os, OrSz o
 may : mayV os ns = true
 at_ : ∀ j, j < ns.length → 0 ≤ (ns.getD j nd0).p ∧ (ns.getD j nd0).p < n
 l0 : 1 ≤ ns.length
 l1 : ns.length ≤ 512
 ol : os.length ≤ 4
theorem parse_k {s : ByteArray} {os : List Or} {ns : List Nd} (h : parseV s = .ok (os, ns)) : PrK s.size os ns := by
 obtain ⟨h1, h2, h3, h4⟩ := parseV_may h
 have hl : 1 ≤ ns.length ∧ ns.length ≤ 512 := by
  unfold treeV at h1
  simp only [Bool.and_eq_true, decide_eq_true_eq] at h1
  exact h1.1.1
 refine ⟨fun t ht => ok_sz (h2 t ht).1, fun o ho => nm_sz (h4 o ho).2.2, ?_, fun j hj => ?_, hl.1, hl.2, h3⟩
 ·unfold mayV
  rw [h1, opsV_ok h3, Bool.and_true]
  rw [List.all_eq_true]
  intro o ho
  obtain ⟨a1, a2, a3⟩ := h4 o ho
  unfold opOk baseB
  rw [a3]
  rcases a1 with e1 | e1 <;> rcases a2 with e2 | e2 <;> (rw [e1, e2]; rfl)
 ·have hm : ns.getD j nd0 ∈ ns := by
   rw [List.getD_eq_getElem?_getD, List.getElem?_eq_getElem hj]; exact List.getElem_mem hj
  exact (h2 _ hm).2
open Go.RowKit
open Go.RowKit
section
variable {ts : List Tk} {en : Int} {E : PS → Except PE (Nat × PS)}
end
open Go.RowKit
section
variable {ts : List Tk} {en : Int} {E : PS → Except PE (Nat × PS)}
end
open Go.RowKit
theorem op_ndb {ops : Array Oper} {rest : List Oper} {o : Oper} {a : Act} {Q : Exit → Act → World → Prop} (hgd : o.guard = none) (s x : Operand) (W : World) (B : Nat) (hB : B ≤ W.heap.size) (ov : Value) (l ys : List Nd) (arr : Array Value)
  (ho : o.op = .call { callee := .builtin .append, args := #[s, x], argTypes := #[23, 23] })
  (hs : a.eval s = ov) (m : Nat) (hm : m = ys.length) (hx : a.eval x = .slice (some ⟨W.heap.size, 0, none⟩) m m) (harr : arr.toList = ndL ys) (hown : OwnN B W ov l) (hlen : (l.length + ys.length) * 112 ≤ 140737488355328)
  (h : ∀ v' w', OwnN B w' v' (l ++ ys) → Bar (fun k => ov.ownBlock = some k) W w' → wpList Tryz.prog ops Q rest (a.put o.dst v') w') :
  wpList Tryz.prog ops Q (o :: rest) a (W.alloc (.cells arr 45)) := by
 subst hm
 obtain ⟨i0, hi, hz0, hz1, hz2⟩ := info_parts infoNd
 refine wpList_append_own _ hgd s x 23 ho B 45 i0 (.agg #[.int .i64 0, .int .i64 0, .int .i64 0, .int .i64 0, .int .i64 0, .string ByteArray.empty, .string ByteArray.empty, .string ByteArray.empty, .string ByteArray.empty, .int .i64 0]) 10 112 Tryz.underlying23 hi hz0 hz1 hz2 rfl (by decide) ov l.length (ndL l) hs (World.ownsRow.alloc hown _) ⟨W.heap.size, 0, none⟩ ys.length ys.length (ndL ys) hx (ndL_len ys) ?_ (ndL_one ys) (by unfold maxLen; omega) (by omega) (by simp; omega) ?_
 ·intro j u hj
  have e : (⟨W.heap.size, 0, none⟩ : Addr).add j = ⟨W.heap.size, j, none⟩ := by simp [Addr.add]; try omega
  rw [e, World.cell?_alloc_at _ _ _ _ rfl, ← hj, ← harr, Array.getElem?_toList]
 ·intro v' w' hown' hgr hnil
  refine h v' w' (by unfold OwnN; rw [ndL_app, List.length_append]; exact hown') ?_
  have hsz := hgr.size
  simp at hsz
  refine ⟨hgr.os, hgr.tape, hgr.output, by omega, fun k hk hn => ?_⟩
  rw [hgr.block k (by simp; omega) (fun e => hn e.symm)]
  exact Below.heap_alloc W _ k (by omega)
theorem own_litN {B : Nat} (W : World) (arr : Array Value) (ts : List Nd) (h : arr.toList = ndL ts) (n : Nat) (hn : n = ts.length) (hB : B ≤ W.heap.size) (hs : n ≤ 1099511627776) : OwnN B (W.alloc (.cells arr 45)) (.slice (some ⟨W.heap.size, 0, none⟩) n n) ts := by
 subst hn
 have hl : arr.toList.length = ts.length * 10 := by rw [h, ndL_len]
 refine ⟨ndL_len _, .inr ⟨W.heap.size, ts.length, arr, rfl, hB, by show (W.heap.push _)[W.heap.size]? = _; simp, Nat.le_refl _, by unfold maxLen; omega, by simpa using hl, ?_⟩⟩
 rw [← hl, List.take_length, h]
open Go.RowKit
theorem et_name : Tryz.prog.globalNamed "errors.errorType" = some 0 := by kernel_rfl
theorem et_rt : (Tryz.prog.cutTypes.find? (·.1 == "internal/reflectlite.rtype")).map (·.2) = some 170 := by kernel_rfl
theorem et_row : ((List.range 219).filter fun t => Tryz.prog.rowNamed t [101, 114, 114, 111, 114]) = [141] := by kernel_rfl
theorem et_size : Tryz.prog.types.size = 219 := by kernel_rfl
theorem et_hd : typeHandle Tryz.prog 141 = .pointer (some ⟨1, 141, none⟩) := by kernel_rfl
theorem errTy_of {W : World} {l : List (String × DataW Unit)} (h : laidMetH Tryz.prog l W) (hm : ("errors.errorType", (Rows.laid_errors_errorType : DataW Unit)) ∈ l) : errTy W := by
 have hf : ("errors.errorType", (Rows.laid_errors_errorType : DataW Unit)) ∈ l.filter fun x => x.2.handleName?.isSome := List.mem_filter.2 ⟨hm, rfl⟩
 have hall : handlesMet Tryz.prog (l.filter fun x => x.2.handleName?.isSome) W := by
  unfold laidMetH at h
  generalize (l.filter fun x => x.2.handleName?.isSome) = fl at h hf
  cases fl with
  | nil => cases hf
  | cons a r => exact h.2
 obtain ⟨name, u, ty, e1, e2, e3, e4, e5⟩ := hall _ hf
 obtain rfl : name = [101, 114, 114, 111, 114] := (Option.some.inj e1).symm
 obtain rfl := Option.some.inj (et_rt.symm.trans e2)
 have hmem : ty ∈ (List.range 219).filter fun t => Tryz.prog.rowNamed t [101, 114, 114, 111, 114] := List.mem_filter.2 ⟨List.mem_range.2 (by rw [← et_size]; exact e3), e4⟩
 rw [et_row] at hmem
 obtain rfl := List.mem_singleton.1 hmem
 rw [et_hd] at e5
 unfold errTy rT
 simpa using World.var?_cell et_name e5 0
noncomputable def handleWorld (os : Os) : World := { World.holding Tryz.prog os ⟨#[], #[], []⟩ with heap := (World.holding Tryz.prog os ⟨#[], #[], []⟩).heap.modify 0 fun | .cells _ t frozen => .cells #[.iface 170 (.agg #[.pointer (some ⟨1, 141, none⟩)])] t frozen | o => o }
end Go.Proofs.YthpcbgljbpmafaaGreatDoor
