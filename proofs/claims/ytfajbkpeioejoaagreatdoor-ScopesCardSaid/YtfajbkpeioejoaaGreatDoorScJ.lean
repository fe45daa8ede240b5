/- What Resolve and May tell, in forms that can be reckoned. -/
import Derived.Test.YtfajbkpeioejoaaGreatDoorScV
import Derived.Test.YtfajbkpeioejoaaGreatDoorScO
import Derived.Test.YtfajbkpeioejoaaGreatDoorNdCo
import Derived.Test.YtfajbkpeioejoaaGreatDoorPrg
/- What Resolve and May tell, in forms that can be reckoned. -/
namespace Go.Proofs.YtfajbkpeioejoaaGreatDoor
open Go.RowKit
set_option linter.unusedVariables false
set_option linter.unusedSimpArgs false

def eqC (s u : ByteArray) : Bool := s.data.toList == u.data.toList
theorem eq_c : eqS = eqC := by funext s u; unfold eqS eqC; rw [ByteArray.toList_eq, ByteArray.toList_eq]
def meanC (ops bd : List ByteArray) (t : Nd) : Except Int Int :=
  if t.k = 0 then match bd.reverse.findIdx? fun u => eqC u t.nm with
    | some i => .ok i
    | none => .error 601
  else if t.k = 9 ∨ t.k = 10 then match ops.findIdx? fun u => eqC u t.nm with
    | some i => .ok i
    | none => .error 602
  else .ok t.n
theorem mean_c : meanV = meanC := by funext o b t; unfold meanV meanC nearI placeI; rw [eq_c]; rfl
def resSC (ops : List ByteArray) : Nat → List Nd → Nat → List ByteArray → Except (Int × Int) (List Nd)
  | 0, _, _, _ => .error (0, 0)
  | f + 1, st, at_, bd => match meanC ops bd (st.getD at_ nd0) with
    | .error c => .error (c, (st.getD at_ nd0).p)
    | .ok m => match kidsRun (resSC ops f) st (kidsS (st.getD at_ nd0)) bd with
      | .error e => .error e
      | .ok st' => .ok (st'.set at_ (bare (st.getD at_ nd0) m))
theorem resS_c (ops : List ByteArray) : ∀ f, resS ops f = resSC ops f
  | 0 => by funext _ _ _; rfl
  | f + 1 => by
    funext st a bd
    unfold resS resSC
    rw [resS_c ops f, mean_c]; rfl
def dupC : List ByteArray → Bool
  | [] => false
  | x :: l => l.any (fun u => eqC u x) || dupC l
theorem dup_c : ∀ l, dupB l = dupC l
  | [] => rfl
  | x :: l => by unfold dupB dupC inS; rw [dup_c l, eq_c]
def resVC (os : List Or) (ts : List Nd) : Except (Int × Int) (List Nd) :=
  if opsV os && treeC true ts then (if dupC (opN os) then .error (602, 0) else resSC (opN os) ts.length ts (ts.length - 1) []) else .error (600, 0)
theorem resV_c (os : List Or) (ts : List Nd) : resV os ts = resVC os ts := by
  unfold resV resVC mayV; rw [tree_c, dup_c, resS_c]
/-- operations in a block that was made last. -/
theorem oarg_alloc (W : World) (arr : Array Value) (ts : List Or) (h : arr.toList = orL ts) (n : Nat) (hn : n = ts.length) : OArg (W.alloc (.cells arr 55)) (some ⟨W.heap.size, 0, none⟩) n ts := by
  refine ⟨hn, .inr ⟨W.heap.size, 0, rfl, orSl_of fun j u hj => ?_, by simp⟩⟩
  rw [Nat.zero_add, World.cell?_alloc_at _ _ _ _ rfl, ← hj, ← h, Array.getElem?_toList]
theorem oarg0 (w : World) (c : Option Addr) : OArg w c 0 [] := ⟨rfl, .inl rfl⟩
theorem or_sz0 : ∀ t ∈ ([] : List Or), OrSz t := by intro t ht; cases ht

def oA : Or := ⟨⟨#[97]⟩, 0, 0⟩
def awP : List Nd := [⟨0, 0, 0, 0, 0, ⟨#[120]⟩, ⟨#[]⟩, ⟨#[]⟩, ⟨#[]⟩, 0⟩, ⟨9, 0, 0, 0, 0, ⟨#[97]⟩, ⟨#[]⟩, ⟨#[]⟩, ⟨#[]⟩, 0⟩, ⟨3, 1, 0, 0, 0, ⟨#[]⟩, ⟨#[121]⟩, ⟨#[]⟩, ⟨#[]⟩, 0⟩, ⟨3, 2, 0, 0, 0, ⟨#[]⟩, ⟨#[120]⟩, ⟨#[]⟩, ⟨#[]⟩, 5⟩]
def awQ : List Nd := [⟨0, 0, 0, 0, 1, ⟨#[]⟩, ⟨#[]⟩, ⟨#[]⟩, ⟨#[]⟩, 0⟩, ⟨9, 0, 0, 0, 0, ⟨#[]⟩, ⟨#[]⟩, ⟨#[]⟩, ⟨#[]⟩, 0⟩, ⟨3, 1, 0, 0, 0, ⟨#[]⟩, ⟨#[]⟩, ⟨#[]⟩, ⟨#[]⟩, 0⟩, ⟨3, 2, 0, 0, 0, ⟨#[]⟩, ⟨#[]⟩, ⟨#[]⟩, ⟨#[]⟩, 5⟩]
def awR : List Nd := [⟨0, 0, 0, 0, 0, ⟨#[120]⟩, ⟨#[]⟩, ⟨#[]⟩, ⟨#[]⟩, 7⟩]
theorem aw6_1 : resV [oA] awP = .ok awQ := by rw [resV_c]; kernel_rfl
theorem aw6_2 : resV [] awR = .error (601, 7) := by rw [resV_c]; kernel_rfl
theorem aw6_3 : resV [] [] = .error (600, 0) := by rw [resV_c]; kernel_rfl
theorem aw6_4 : resV [] awP = .error (602, 0) := by rw [resV_c]; kernel_rfl
theorem sz_oA : ∀ t ∈ [oA], OrSz t := by intro t ht; rw [List.mem_singleton.1 ht]; show _ ≤ _; decide
theorem sz_awP : ∀ t ∈ awP, NdSz t := by
  intro t ht
  simp only [awP, List.mem_cons, List.not_mem_nil, or_false] at ht
  rcases ht with rfl | rfl | rfl | rfl <;> (unfold NdSz; decide)
theorem sz_awQ : ∀ t ∈ awQ, NdSz t := by
  intro t ht
  simp only [awQ, List.mem_cons, List.not_mem_nil, or_false] at ht
  rcases ht with rfl | rfl | rfl | rfl <;> (unfold NdSz; decide)
theorem sz_awR : ∀ t ∈ awR, NdSz t := by
  intro t ht
  simp only [awR, List.mem_cons, List.not_mem_nil, or_false] at ht
  rcases ht with rfl <;> (unfold NdSz; decide)
end Go.Proofs.YtfajbkpeioejoaaGreatDoor

/- awake of layer 6. -/
namespace Go.Proofs.YtfajbkpeioejoaaGreatDoor
open Go.RowKit
set_option linter.unusedVariables false
set_option linter.unusedSimpArgs false

def bareC (t : Nd) : Bool := (t.nm.data.toList == []) && ((t.x.data.toList == []) && ((t.y.data.toList == []) && (t.z.data.toList == [])))
theorem bare_c : bareB = bareC := by funext t; unfold bareB bareC; simp only [ByteArray.toList_eq]
theorem smay_c (os : List Or) (ts : List Nd) : smayV os ts = ((opsV os && !dupC (opN os)) && ((decide ((0 : Int) ≤ 0 ∧ (0 : Int) < ts.length) && anyC ts) && (ts.all bareC && numsV os.length ts.length ts (ts.length - 1) 0))) := by
  unfold smayV hasV; rw [bare_c, any_c, dup_c]
theorem aw6_5 : smayV [oA] awQ = true := by rw [smay_c]; decide +kernel
theorem aw6_6 : smayV [] awR = false := by rw [smay_c]; decide +kernel
theorem Pg.bar {S : Nat → Prop} {W W' : World} {g : Nat} {a a2 : Option Addr} {n c n2 c2 : Nat} (h : Pg W g a n c a2 n2 c2) (hb : Bar S W W') (hn : ¬ S g) : Pg W' g a n c a2 n2 c2 := ⟨by have := hb.size; have := h.1; omega, hb.cell h.2.1 hn, hb.cell h.2.2 hn⟩
/-- a program's box in memory that may be written, told of a row of nodes. -/
theorem NArg.bar {S : Nat → Prop} {w w' : World} {g n : Nat} {ts : List Nd} (h : NArg w (some ⟨g, 0, none⟩) n ts) (hb : Bar S w w') (hn : ¬ S g) : NArg w' (some ⟨g, 0, none⟩) n ts := by
  obtain ⟨h1, h2 | ⟨b, off, h3, h4, h5⟩⟩ := h
  · exact ⟨h1, .inl h2⟩
  · injection h3 with h3; injection h3 with h6 h7 _; subst h6; subst h7
    exact ⟨h1, .inr ⟨g, 0, rfl, h4.bar hb hn, by have := hb.size; omega⟩⟩
theorem OArg.bar {S : Nat → Prop} {w w' : World} {a : Option Addr} {n : Nat} {ts : List Or} (h : OArg w a n ts) (hb : Bar S w w') (hn : ∀ b off, a = some ⟨b, off, none⟩ → ¬ S b) : OArg w' a n ts := by
  obtain ⟨h1, h2 | ⟨b, off, h3, h4, h5⟩⟩ := h
  · exact ⟨h1, .inl h2⟩
  · have hs := hn b off h3
    refine ⟨h1, .inr ⟨b, off, h3, fun i hi => ?_, by have := hb.size; omega⟩⟩
    obtain ⟨a1, a2, a3⟩ := h4 i hi
    exact ⟨hb.cell a1 hs, hb.cell a2 hs, hb.cell a3 hs⟩
/-- what a call of Resolve leaves, where it finds nodes. -/
theorem res_ok {os : List Or} {ts ss : List Nd} {w w' : World} {e : Ending} (h : ResPost os (resV os ts) w e w') (hr : resV os ts = .ok ss) :
    ∃ ao co N cn, e = .returned (.tuple #[.agg #[.slice ao os.length co, .slice (some ⟨N, 0, none⟩) ss.length cn], .int .i64 0, .int .i64 0]) ∧ Below w.heap.size w w' ∧ OwnO w.heap.size w' (.slice ao os.length co) os ∧ w.heap.size ≤ N ∧ N < w'.heap.size ∧ NdSl w' N 0 ss := by
  rw [hr] at h
  obtain ⟨ao, no, co, an, nn, cn, at_, code, rfl, hb, rfl, rfl, ho, N, rfl, rfl, h1, h2, h3, h4⟩ := h
  have hno := ho.arg.1
  subst hno
  exact ⟨ao, co, N, cn, rfl, hb, ho, h1, h2, h3⟩
/-- the same where it finds none. -/
theorem res_no {os : List Or} {ts : List Nd} {c p : Int} {w w' : World} {e : Ending} (h : ResPost os (resV os ts) w e w') (hr : resV os ts = .error (c, p)) :
    e = .returned (.tuple #[.agg #[.slice none 0 0, .slice none 0 0], .int .i64 p, .int .i64 c]) ∧ Below w.heap.size w w' := by
  rw [hr] at h
  obtain ⟨ao, no, co, an, nn, cn, at_, code, rfl, hb, rfl, rfl, rfl, rfl, rfl, rfl, rfl, rfl⟩ := h
  exact ⟨rfl, hb⟩
set_option maxRecDepth 100000 in
set_option maxHeartbeats 8000000 in
theorem awake6_any (w : World) (hg : Hid (errTy w)) : Calls Tryz.prog 13 #[] w fun e w' => e = .returned (.bool true) ∧ Below w.heap.size w w' := by
  have h0l := hgl hg.out
  go_enter Tryz.func13, Tryz.ntmps13
  go_wp2_with fail
  have hO : OArg (w.alloc (.cells #[.string ⟨#[97]⟩, .int .i64 0, .int .i64 0] 55)) (some ⟨w.heap.size, 0, none⟩) 1 [oA] := oarg_alloc w _ [oA] rfl 1 rfl
  obtain ⟨wa, hwa⟩ : ∃ W, w.alloc (.cells #[.string ⟨#[97]⟩, .int .i64 0, .int .i64 0] 55) = W := ⟨_, rfl⟩
  have hal : wa.heap.size = w.heap.size + 1 := by rw [← hwa]; simp
  have hab : Below w.heap.size w wa := by rw [← hwa]; exact below_alc _ _
  rw [hwa] at hO ⊢
  have hO0 := hO
  clear hO
  have hN := narg_alloc wa #[.int .i64 0, .int .i64 0, .int .i64 0, .int .i64 0, .int .i64 0, .string ⟨#[120]⟩, .string ⟨#[]⟩, .string ⟨#[]⟩, .string ⟨#[]⟩, .int .i64 0, .int .i64 9, .int .i64 0, .int .i64 0, .int .i64 0, .int .i64 0, .string ⟨#[97]⟩, .string ⟨#[]⟩, .string ⟨#[]⟩, .string ⟨#[]⟩, .int .i64 0, .int .i64 3, .int .i64 1, .int .i64 0, .int .i64 0, .int .i64 0, .string ⟨#[]⟩, .string ⟨#[121]⟩, .string ⟨#[]⟩, .string ⟨#[]⟩, .int .i64 0, .int .i64 3, .int .i64 2, .int .i64 0, .int .i64 0, .int .i64 0, .string ⟨#[]⟩, .string ⟨#[120]⟩, .string ⟨#[]⟩, .string ⟨#[]⟩, .int .i64 5] awP rfl 4 rfl
  obtain ⟨wb, hwb⟩ : ∃ W, wa.alloc (.cells #[.int .i64 0, .int .i64 0, .int .i64 0, .int .i64 0, .int .i64 0, .string ⟨#[120]⟩, .string ⟨#[]⟩, .string ⟨#[]⟩, .string ⟨#[]⟩, .int .i64 0, .int .i64 9, .int .i64 0, .int .i64 0, .int .i64 0, .int .i64 0, .string ⟨#[97]⟩, .string ⟨#[]⟩, .string ⟨#[]⟩, .string ⟨#[]⟩, .int .i64 0, .int .i64 3, .int .i64 1, .int .i64 0, .int .i64 0, .int .i64 0, .string ⟨#[]⟩, .string ⟨#[121]⟩, .string ⟨#[]⟩, .string ⟨#[]⟩, .int .i64 0, .int .i64 3, .int .i64 2, .int .i64 0, .int .i64 0, .int .i64 0, .string ⟨#[]⟩, .string ⟨#[120]⟩, .string ⟨#[]⟩, .string ⟨#[]⟩, .int .i64 5] 42) = W := ⟨_, rfl⟩
  have hbl : wb.heap.size = w.heap.size + 1 + 1 := by rw [← hwb]; simp [hal]
  have hbb : Below wa.heap.size wa wb := by rw [← hwb]; exact below_alc _ _
  rw [hwb] at hN ⊢
  rw [hal] at hN
  have hN0 := hN
  clear hN
  have hP := pg_lit wb 25 (w.heap.size + 1 + 1) hbl.symm (some ⟨w.heap.size, 0, none⟩) (some ⟨w.heap.size + 1, 0, none⟩) 1 1 4 4
  obtain ⟨w1, hw1⟩ : ∃ W, wb.alloc (.cells #[.slice (some ⟨w.heap.size, 0, none⟩) 1 1, .slice (some ⟨w.heap.size + 1, 0, none⟩) 4 4] 25) = W := ⟨_, rfl⟩
  have hcb : Below wb.heap.size wb w1 := by rw [← hw1]; exact below_alc _ _
  have hpf : w1.frozen? ⟨w.heap.size + 1 + 1, 0, none⟩ = false := by rw [← hw1]; simp [go_sem, hbl]
  rw [hw1] at hP ⊢
  have hB := Lib.hid (belT hab (belT hbb hcb))
  have hO := Lib.hid (hO0.below (belT hbb hcb))
  have hN := Lib.hid (hN0.below hcb)
  have hP := Lib.hid hP
  have hg1 := Lib.hid (hg.out.below hB.out)
  have h1l : w1.heap.size = w.heap.size + 3 := by rw [← hw1]; simp [hbl]
  clear hab hbb hcb hal hbl hO0 hN0 hwa hw1 hwb wa wb
  -- the first call
  refine (Resolve_any _ _ 1 1 4 4 [oA] awP w1 hO (Lib.hid sz_oA) (by omega) hN (Lib.hid sz_awP) (by omega) hg1).mono ?_
  intro e w2 hpost
  obtain ⟨ao, co, N, cn, rfl, hb, hown, hN1, hN2, hsl⟩ := res_ok hpost aw6_1
  clear hpost
  have hB := Lib.hid (belT hB.out hb)
  have hN := Lib.hid (hN.out.below hb)
  have hP := Lib.hid (hP.out.below hb)
  have hpf := (hb.frozen (p := ⟨w.heap.size + 1 + 1, 0, none⟩) (by show w.heap.size + 1 + 1 < _; omega)).trans hpf
  have hQO : Hid (OArg w2 ao 1 [oA]) := Lib.hid hown.arg
  have hQN : Hid (NArg w2 (some ⟨N, 0, none⟩) 4 awQ) := Lib.hid ⟨rfl, .inr ⟨N, 0, rfl, hsl, hN2⟩⟩
  have hQb : ∀ b off, ao = some ⟨b, off, none⟩ → w1.heap.size ≤ b := by
    intro b off hb'
    rcases hown.cases with ⟨h, _⟩ | ⟨g, c, h, hg', _⟩
    · injection h with h _ _; rw [h] at hb'; cases hb'
    · injection h with h _ _; rw [h] at hb'; injection hb' with hb'; injection hb' with hb' _ _; omega
  have hlw2 : w1.heap.size ≤ w2.heap.size := hb.size
  clear hb hown hsl
  simp only [show [oA].length = 1 from rfl, show awQ.length = 4 from rfl]
  go_wp2_with fail
  have hQ := pg_lit w2 25 w2.heap.size rfl ao (some ⟨N, 0, none⟩) 1 co 4 cn
  obtain ⟨wc, hwc⟩ : ∃ W, w2.alloc (.cells #[.slice ao 1 co, .slice (some ⟨N, 0, none⟩) 4 cn] 25) = W := ⟨_, rfl⟩
  have hcl : wc.heap.size = w2.heap.size + 1 := by rw [← hwc]; simp
  have hcb : Below w2.heap.size w2 wc := by rw [← hwc]; exact below_alc _ _
  rw [hwc] at hQ ⊢
  have hM := narg_alloc wc #[.int .i64 0, .int .i64 0, .int .i64 0, .int .i64 0, .int .i64 0, .string ⟨#[120]⟩, .string ⟨#[]⟩, .string ⟨#[]⟩, .string ⟨#[]⟩, .int .i64 7] awR rfl 1 rfl
  obtain ⟨wd, hwd⟩ : ∃ W, wc.alloc (.cells #[.int .i64 0, .int .i64 0, .int .i64 0, .int .i64 0, .int .i64 0, .string ⟨#[120]⟩, .string ⟨#[]⟩, .string ⟨#[]⟩, .string ⟨#[]⟩, .int .i64 7] 42) = W := ⟨_, rfl⟩
  have hdl : wd.heap.size = w2.heap.size + 1 + 1 := by rw [← hwd]; simp [hcl]
  have hdb : Below wc.heap.size wc wd := by rw [← hwd]; exact below_alc _ _
  rw [hwd] at hM ⊢
  rw [hcl] at hM
  have hR := pg_lit wd 25 (w2.heap.size + 1 + 1) hdl.symm none (some ⟨w2.heap.size + 1, 0, none⟩) 0 0 1 1
  obtain ⟨w3, hw3⟩ : ∃ W, wd.alloc (.cells #[.slice none 0 0, .slice (some ⟨w2.heap.size + 1, 0, none⟩) 1 1] 25) = W := ⟨_, rfl⟩
  have h3b : Below wd.heap.size wd w3 := by rw [← hw3]; exact below_alc _ _
  have h3l : w3.heap.size = w2.heap.size + 3 := by rw [← hw3]; simp [hdl]
  rw [hw3] at hR ⊢
  have hb := belT hcb (belT hdb h3b)
  have hB := Lib.hid (belT hB.out hb)
  have hN := Lib.hid (hN.out.below hb)
  have hP := Lib.hid (hP.out.below hb)
  have hpf := (hb.frozen (p := ⟨w.heap.size + 1 + 1, 0, none⟩) (by show w.heap.size + 1 + 1 < _; omega)).trans hpf
  have hQO := Lib.hid (hQO.out.below hb)
  have hQN := Lib.hid (hQN.out.below hb)
  have hQ3 := Lib.hid (hQ.below (belT hdb h3b))
  have hM3 := Lib.hid (hM.below h3b)
  have hR3 := Lib.hid hR
  have hg3 := Lib.hid (hg.out.below hB.out)
  clear hQ hM hR hcb hdb h3b hb hcl hdl hwc hw3 hwd wc wd
  -- the second call
  refine (Resolve_any none _ 0 0 1 1 [] awR w3 (Lib.hid (oarg0 _ _)) (Lib.hid or_sz0) (by omega) hM3 (Lib.hid sz_awR) (by omega) hg3).mono ?_
  intro e w4 hpost
  obtain ⟨rfl, hb⟩ := res_no hpost aw6_2
  clear hpost
  have hb4l := hb.size
  have hB := Lib.hid (belT hB.out hb)
  have hN := Lib.hid (hN.out.below hb)
  have hP := Lib.hid (hP.out.below hb)
  have hpf := (hb.frozen (p := ⟨w.heap.size + 1 + 1, 0, none⟩) (by show w.heap.size + 1 + 1 < _; omega)).trans hpf
  have hQO := Lib.hid (hQO.out.below hb)
  have hQN := Lib.hid (hQN.out.below hb)
  have hQ3 := Lib.hid (hQ3.out.below hb)
  have hM3 := Lib.hid (hM3.out.below hb)
  have hR3 := Lib.hid (hR3.out.below hb)
  clear hb
  go_wp2_with fail
  obtain ⟨w5, hw5⟩ : ∃ W, w4.alloc (.cells #[.slice none 0 0, .slice none 0 0] 25) = W := ⟨_, rfl⟩
  have hb5 : Below w4.heap.size w4 w5 := by rw [← hw5]; exact below_alc _ _
  rw [hw5]
  clear hw5
  have hg5 := Lib.hid (hg.out.below (belT hB.out hb5))
  -- the third call
  refine (Resolve_any none none 0 0 0 0 [] [] w5 (Lib.hid (oarg0 _ _)) (Lib.hid or_sz0) (by omega) (Lib.hid (narg0 _ _)) (Lib.hid nd_sz0) (by omega) hg5).mono ?_
  intro e w6 hpost
  obtain ⟨rfl, hb6⟩ := res_no hpost aw6_3
  clear hpost
  have hb := belT hb5 hb6
  have hb6l := hb.size
  have hB := Lib.hid (belT hB.out hb)
  have hN := Lib.hid (hN.out.below hb)
  have hP := Lib.hid (hP.out.below hb)
  have hpf := (hb.frozen (p := ⟨w.heap.size + 1 + 1, 0, none⟩) (by show w.heap.size + 1 + 1 < _; omega)).trans hpf
  have hQO := Lib.hid (hQO.out.below hb)
  have hQN := Lib.hid (hQN.out.below hb)
  have hQ3 := Lib.hid (hQ3.out.below hb)
  have hM3 := Lib.hid (hM3.out.below hb)
  have hR3 := Lib.hid (hR3.out.below hb)
  clear hb hb5 hb6
  go_upto_region 6 with fail
  obtain ⟨w7, hw7⟩ : ∃ W, w6.alloc (.cells #[.slice none 0 0, .slice none 0 0] 25) = W := ⟨_, rfl⟩
  have hb : Below w6.heap.size w6 w7 := by rw [← hw7]; exact below_alc _ _
  rw [hw7]
  clear hw7
  have hb7l := hb.size
  have hB := Lib.hid (belT hB.out hb)
  have hN := Lib.hid (hN.out.below hb)
  have hP := Lib.hid (hP.out.below hb)
  have hpf := (hb.frozen (p := ⟨w.heap.size + 1 + 1, 0, none⟩) (by show w.heap.size + 1 + 1 < _; omega)).trans hpf
  have hQO := Lib.hid (hQO.out.below hb)
  have hQN := Lib.hid (hQN.out.below hb)
  have hQ3 := Lib.hid (hQ3.out.below hb)
  have hM3 := Lib.hid (hM3.out.below hb)
  have hR3 := Lib.hid (hR3.out.below hb)
  clear hb
  obtain ⟨p0, p1, p2⟩ := hP.out
  go_upto_region 7 with fail
  have hS := Bar.set (S := fun k => k = w.heap.size + 1 + 1) (w := w7) ⟨w.heap.size + 1 + 1, 0, none⟩ (.slice none 0 0) rfl
  have hp1 := setS (v := .slice none 0 0) p1
  have hp2 : (w7.setCell ⟨w.heap.size + 1 + 1, 0, none⟩ (.slice none 0 0)).cell? ⟨w.heap.size + 1 + 1, 1, none⟩ = _ := setO p2 (by simp)
  have hB8 := hB.out.setCell (p := ⟨w.heap.size + 1 + 1, 0, none⟩) (by show w.heap.size ≤ w.heap.size + 1 + 1; omega) (.slice none 0 0)
  obtain ⟨w8, hw8⟩ : ∃ W, w7.setCell ⟨w.heap.size + 1 + 1, 0, none⟩ (.slice none 0 0) = W := ⟨_, rfl⟩
  rw [hw8] at hS hp1 hp2 hB8 ⊢
  clear hw8 p0 p1 p2 hP
  have hN := Lib.hid (hN.out.bar hS (by omega))
  have hQO := Lib.hid (hQO.out.bar hS (fun b off hb h => by have := hQb b off hb; omega))
  have hQN := Lib.hid (hQN.out.bar hS (by omega))
  have hQ3 := Lib.hid (hQ3.out.bar hS (by omega))
  have hM3 := Lib.hid (hM3.out.bar hS (by omega))
  have hR3 := Lib.hid (hR3.out.bar hS (by omega))
  have hB := Lib.hid hB8
  have h8l : w7.heap.size ≤ w8.heap.size := hS.size
  have hg8 := Lib.hid (hg.out.below hB.out)
  clear hS hB8
  go_wp2_with fail
  -- the fourth call
  refine (Resolve_any none _ 0 0 4 4 [] awP w8 (Lib.hid (oarg0 _ _)) (Lib.hid or_sz0) (by omega) hN (Lib.hid sz_awP) (by omega) hg8).mono ?_
  intro e w9 hpost
  obtain ⟨rfl, hb⟩ := res_no hpost aw6_4
  clear hpost hp1 hp2 hN
  have hB := Lib.hid (belT hB.out hb)
  have hQO := Lib.hid (hQO.out.below hb)
  have hQN := Lib.hid (hQN.out.below hb)
  have hQ3 := Lib.hid (hQ3.out.below hb)
  have hM3 := Lib.hid (hM3.out.below hb)
  have hR3 := Lib.hid (hR3.out.below hb)
  have h9l := hb.size
  clear hb
  go_upto_region 8 with fail
  obtain ⟨wt, hwt⟩ : ∃ W, w9.alloc (.cells #[.slice none 0 0, .slice none 0 0] 25) = W := ⟨_, rfl⟩
  have hb : Below w9.heap.size w9 wt := by rw [← hwt]; exact below_alc _ _
  rw [hwt]
  clear hwt
  have hB := Lib.hid (belT hB.out hb)
  have hQO := Lib.hid (hQO.out.below hb)
  have hQN := Lib.hid (hQN.out.below hb)
  have hQ3 := Lib.hid (hQ3.out.below hb)
  have hM3 := Lib.hid (hM3.out.below hb)
  have hR3 := Lib.hid (hR3.out.below hb)
  clear hb
  have hL := narg_alloc wt #[.int .i64 0, .int .i64 0, .int .i64 0, .int .i64 0, .int .i64 1, .string ⟨#[]⟩, .string ⟨#[]⟩, .string ⟨#[]⟩, .string ⟨#[]⟩, .int .i64 0, .int .i64 9, .int .i64 0, .int .i64 0, .int .i64 0, .int .i64 0, .string ⟨#[]⟩, .string ⟨#[]⟩, .string ⟨#[]⟩, .string ⟨#[]⟩, .int .i64 0, .int .i64 3, .int .i64 1, .int .i64 0, .int .i64 0, .int .i64 0, .string ⟨#[]⟩, .string ⟨#[]⟩, .string ⟨#[]⟩, .string ⟨#[]⟩, .int .i64 0, .int .i64 3, .int .i64 2, .int .i64 0, .int .i64 0, .int .i64 0, .string ⟨#[]⟩, .string ⟨#[]⟩, .string ⟨#[]⟩, .string ⟨#[]⟩, .int .i64 5] awQ rfl 4 rfl
  have hb := below_alc wt (.cells #[.int .i64 0, .int .i64 0, .int .i64 0, .int .i64 0, .int .i64 1, .string ⟨#[]⟩, .string ⟨#[]⟩, .string ⟨#[]⟩, .string ⟨#[]⟩, .int .i64 0, .int .i64 9, .int .i64 0, .int .i64 0, .int .i64 0, .int .i64 0, .string ⟨#[]⟩, .string ⟨#[]⟩, .string ⟨#[]⟩, .string ⟨#[]⟩, .int .i64 0, .int .i64 3, .int .i64 1, .int .i64 0, .int .i64 0, .int .i64 0, .string ⟨#[]⟩, .string ⟨#[]⟩, .string ⟨#[]⟩, .string ⟨#[]⟩, .int .i64 0, .int .i64 3, .int .i64 2, .int .i64 0, .int .i64 0, .int .i64 0, .string ⟨#[]⟩, .string ⟨#[]⟩, .string ⟨#[]⟩, .string ⟨#[]⟩, .int .i64 5] 42)
  have kS := Lib.hid (sameNodes_any (some ⟨N, 0, none⟩) _ 4 4 cn 4 awQ awQ _ (Lib.hid (hQN.out.below hb)) (Lib.hid hL) (by omega))
  rw [sameV_self ndE_self] at kS
  have hb := Lib.hid hb
  clear hL
  obtain ⟨q0, q1, q2⟩ := hQ3.out
  go_wp2_with fail
  clear q0 q1 q2
  refine kS.out.mono ?_
  rintro e wu ⟨rfl, hbu⟩
  have hb := Lib.hid (belT hb.out hbu)
  have hB := Lib.hid (belT hB.out hb.out)
  have hQO := Lib.hid (hQO.out.below hb.out)
  have hQN := Lib.hid (hQN.out.below hb.out)
  have hQ3 := Lib.hid (hQ3.out.below hb.out)
  have hM3 := Lib.hid (hM3.out.below hb.out)
  have hR3 := Lib.hid (hR3.out.below hb.out)
  clear hb hbu kS
  obtain ⟨q0, q1, q2⟩ := hQ3.out
  obtain ⟨r0, r1, r2⟩ := hR3.out
  have hgu := Lib.hid (hg.out.below hB.out)
  go_wp2_with ((go_at_call 8; refine (num_any _ _ (by omega) (by omega)).mono ?_; rintro e w' ⟨rfl, rfl⟩))
  refine (sMay_any ao (some ⟨N, 0, none⟩) 1 co 4 cn [oA] awQ wu hQO (Lib.hid sz_oA) (by omega) hQN (Lib.hid sz_awQ) (by omega) hgu).mono ?_
  rw [aw6_5]
  rintro e wv ⟨rfl, hb⟩
  have hB := Lib.hid (belT hB.out hb)
  have hM3 := Lib.hid (hM3.out.below hb)
  have hR3 := Lib.hid (hR3.out.below hb)
  have hgv := Lib.hid (hg.out.below hB.out)
  clear hb q0 q1 q2 r0 r1 r2
  obtain ⟨r0, r1, r2⟩ := hR3.out
  go_wp2_with fail
  refine (sMay_any none _ 0 0 1 1 [] awR wv (Lib.hid (oarg0 _ _)) (Lib.hid or_sz0) (by omega) hM3 (Lib.hid sz_awR) (by omega) hgv).mono ?_
  rw [aw6_6]
  rintro e wx ⟨rfl, hb⟩
  have hB := Lib.hid (belT hB.out hb)
  clear hb r0 r1 r2
  go_wp2_with fail
  go_ret
  exact ⟨rfl, hB.out⟩
end Go.Proofs.YtfajbkpeioejoaaGreatDoor
