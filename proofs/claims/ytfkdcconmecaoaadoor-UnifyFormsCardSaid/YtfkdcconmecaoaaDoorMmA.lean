/- Regions that draw their order, walked operation by operation: guards that are false, too. -/
import Derived.Test.YtfkdcconmecaoaaDoorSbP
import Derived.Deep.RegionHeld3
import Derived.Test.YtfkdcconmecaoaaDoorShE
import Derived.Test.YtfkdcconmecaoaaDoorMtP
import Derived.Test.YtfkdcconmecaoaaDoorSbA
import Derived.Test.YtfkdcconmecaoaaDoorInO
import Derived.BigRegion
import Derived.Deep.RegionWith
/- Regions that draw their order, walked operation by operation: guards that are false, too. -/
namespace Go.Proofs.YtfkdcconmecaoaaDoor
open Go.RowKit
set_option linter.unusedVariables false
set_option linter.unusedSimpArgs false

section
variable {P : Program} {ops : Array Oper} {Q : Exit → Act → World → Prop} {md : Region.Mode} {S : World → Prop}
theorem rg_take (i : Nat) (d : Option Tmp) {oi : Oper} {v : Value} {fuel : Nat} {listed : Array Bool} {a : Act} {w : World} (hi : ops[i]? = some oi) (hd : oi.dst = d)
    (hs : Region.noSelect ops = true) (hf : Region.free md ops listed i = true) (hr : (Region.ready md ops listed).contains i = true)
    (hQ : ∀ c a w, Q (.panic c) (a.put d v) w → Q (.panic c) a w) (hw : Region.wanted oi (yielded ops a.tmps) = true) (hy : ∀ w, S w → (execOp a.eval oi).run P w = .ok (.value v) w) (hS : S w)
    (h : wpAnyH P md ops Q S fuel (listed.setIfInBounds i true) (a.put d v) w) : wpAnyH P md ops Q S (fuel + 1) listed a w := by
  subst hd
  exact wpAnyH_take hi hs hf hr hQ (.inl ⟨hw, hy⟩) hS h
theorem rg_skip (i : Nat) (d : Option Tmp) {oi : Oper} {fuel : Nat} {listed : Array Bool} {a : Act} {w : World} (hi : ops[i]? = some oi) (hd : oi.dst = d)
    (hs : Region.noSelect ops = true) (hf : Region.free md ops listed i = true) (hr : (Region.ready md ops listed).contains i = true)
    (hQ : ∀ c a w, Q (.panic c) (a.put d undef) w → Q (.panic c) a w) (hw : Region.wanted oi (yielded ops a.tmps) = false) (hS : S w)
    (h : wpAnyH P md ops Q S fuel (listed.setIfInBounds i true) (a.put d undef) w) : wpAnyH P md ops Q S (fuel + 1) listed a w := by
  subst hd
  exact wpAnyH_take hi hs hf hr hQ (.inr ⟨hw, rfl⟩) hS h
theorem rg_one (i : Nat) {o : Oper} {fuel : Nat} {listed : Array Bool} {a : Act} {w : World} (hi : ops[i]? = some o) (hr : Region.ready md ops listed = [i]) (hw : Region.wanted o (yielded ops a.tmps) = true)
    (h : ∀ K' : Act → World → Prop, Shut (∀ a w, S w → (S w → wpAnyH P md ops Q S fuel (listed.setIfInBounds i true) a w) → K' a w) → Oper.wp P o a w K' Q) : wpAnyH P md ops Q S (fuel + 1) listed a w := by
  refine wpAnyH_ready hr (by simp) (AllReadyH.cons hi (fun K hK => ?_) AllReadyH.nil)
  rw [if_pos hw]
  exact h K hK
end
end Go.Proofs.YtfkdcconmecaoaaDoor

/- shape.Same. -/
namespace Go.Proofs.YtfkdcconmecaoaaDoor
open Go.RowKit
set_option linter.unusedVariables false
set_option linter.unusedSimpArgs false

set_option maxRecDepth 10000 in
theorem eq_shp {w : World} {T U : TT} {a b : Nat} (ha : Shp w T a) (hb : Shp w U b) :
    (binOp .eql 65 (.pointer (some ⟨a, 0, none⟩)) (.pointer (some ⟨b, 0, none⟩))).run Tryd.prog w = .ok (.bool (decide (a = b))) w := by
  obtain ⟨i0, hi, _, hz, _⟩ := info_parts (show (Tryd.prog.info? 116).map (fun i => (i.zero, i.size, i.bytes)) = some (some (.agg #[.int .i64 0, .int .i64 0, .pointer none, .pointer none, .int .i64 0, .int .i64 0, .int .i64 0, .int .i64 0, .int .i64 0, .int .i64 0, .bool false]), 11, 88) by kernel_rfl)
  by_cases h : a = b
  · subst h
    have h : ∀ d : Nat, (Op.equalIn (d + 1) 65 (.pointer (some ⟨a, 0, none⟩)) (.pointer (some ⟨a, 0, none⟩))).run Tryd.prog w = .ok true w := fun d => by
      simp [Op.equalIn, run_underlying Tryd.underlying65, sizeOf, typeInfo, hi, run_sameAddr_same]
    simp only [binOp]
    simp [Op.equal, Op.maxDepth, h 9999]
  · obtain ⟨_, _, h1⟩ := ha.blk
    obtain ⟨_, _, h2⟩ := hb.blk
    unfold shB at h1 h2
    have hne' : (⟨a, 0, none⟩ : Addr) ≠ ⟨b, 0, none⟩ := by intro e; injection e; contradiction
    have h' : ∀ d : Nat, (Op.equalIn (d + 1) 65 (.pointer (some ⟨a, 0, none⟩)) (.pointer (some ⟨b, 0, none⟩))).run Tryd.prog w = .ok false w := fun d => by
      simp [Op.equalIn, run_underlying Tryd.underlying65, sizeOf, typeInfo, hi, hz, run_sameAddr_other w hne' h1 h2]
    simp only [binOp]
    simp [Op.equal, Op.maxDepth, h' 9999, h]
/-- what is looked at ahead of the children. -/
def sm4 (A B : TT) : Bool := kdS A == kdS B && (((A.sz : Int) == B.sz) && (vrS A == vrS B && rwQ (rwS A).a (rwS A).b (rwS A).c (rwS A).d (rwS A).t (rwS B).a (rwS B).b (rwS B).c (rwS B).d (rwS B).t))
theorem rwQ_iff (r s : Rw) : rwQ r.a r.b r.c r.d r.t s.a s.b s.c s.d s.t = decide (r = s) := by
  obtain ⟨_, _, _, _, _⟩ := r
  obtain ⟨_, _, _, _, _⟩ := s
  unfold rwQ
  rw [Bool.eq_iff_iff]
  simp [Rw.mk.injEq, and_assoc]
theorem sm4_ne {A B : TT} (h : sm4 A B = false) : decide (A = B) = false := by
  rw [decide_eq_false_iff_not]
  rintro rfl
  unfold sm4 at h
  rw [rwQ_iff] at h
  simp at h
theorem sm4_eq {A B : TT} (h : sm4 A B = true) (hA : kdS A ≠ 3) (hoA : A.ok = true) (hoB : B.ok = true) : A = B := by
  unfold sm4 at h
  rw [rwQ_iff] at h
  simp only [Bool.and_eq_true, beq_iff_eq, decide_eq_true_eq] at h
  obtain ⟨h1, h2, h3, h4⟩ := h
  cases A with
  | base k =>
    cases B with
    | base k' => have e : k = k' := h1; rw [e]
    | var v =>
      have e : k = 2 := h1
      subst e; simp [TT.ok] at hoA
    | fn a r b => exact absurd h1 hA
  | var v =>
    cases B with
    | base k' =>
      have e : 2 = k' := h1
      subst e; simp [TT.ok] at hoB
    | var v' => have e : v = v' := h3; rw [e]
    | fn a r b => exact absurd h1 hA
  | fn a r b => exact absurd rfl hA

set_option maxRecDepth 100000 in
set_option maxHeartbeats 8000000 in
theorem shSame_leaf (A B : TT) (ga gb : Nat) (w : World) (hA : Hid (Shp w A ga)) (hB : Hid (Shp w B gb)) (hoA : A.ok = true) (hoB : B.ok = true) (hk : ¬ (kdS A = 3 ∧ kdS B = 3)) :
    Calls Tryd.prog 72 #[ptrS ga, ptrS gb] w fun e w' => e = .returned (.bool (decide (A = B))) ∧ ∃ n, w' = w.drewN n := by
  unfold ptrS
  obtain ⟨pa, pb, hbA⟩ := hA.out.blk
  obtain ⟨qa, qb, hbB⟩ := hB.out.blk
  have cA := shC_of hbA
  have cB := shC_of hbB
  obtain ⟨x0, hx0⟩ : ∃ x, decide (ga = gb) = x := ⟨_, rfl⟩
  have hq : (binOp .eql 65 (.pointer (some ⟨ga, 0, none⟩)) (.pointer (some ⟨gb, 0, none⟩))).run Tryd.prog w = .ok (.bool x0) w := by rw [← hx0]; exact eq_shp hA.out hB.out
  have hone : Hid (x0 = true → A = B) := Lib.hid fun e => by
    have e' : ga = gb := by rw [e] at hx0; exact of_decide_eq_true hx0
    subst e'; exact Shp.one hA.out hB.out
  have hne := Lib.hid fun (e : sm4 A B = false) => sm4_ne e
  have heq := Lib.hid fun (e : sm4 A B = true) (e2 : kdS A ≠ 3) => sm4_eq e e2 hoA hoB
  have hkk := Lib.hid hk
  have hla := hA.out.lt
  have hlb := hB.out.lt
  have a0 := cA.c0; have a1 := cA.c1; have a9 := cA.c9; have a4 := cA.c4; have a5 := cA.c5; have a6 := cA.c6; have a7 := cA.c7; have a8 := cA.c8
  have b0 := cB.c0; have b1 := cB.c1; have b9 := cB.c9; have b4 := cB.c4; have b5 := cB.c5; have b6 := cB.c6; have b7 := cB.c7; have b8 := cB.c8
  have hs4 : Hid (∀ z, sm4 A B = z → (kdS A == kdS B && (((A.sz : Int) == B.sz) && (vrS A == vrS B && rwQ (rwS A).a (rwS A).b (rwS A).c (rwS A).d (rwS A).t (rwS B).a (rwS B).b (rwS B).c (rwS B).d (rwS B).t))) = z) := Lib.hid fun z e => e
  clear cA cB hbA hbB hx0 hk hoA hoB hA hB
  unfold sm4 at hne heq
  clear hs4
  obtain ⟨D, hD⟩ : ∃ D, decide (A = B) = D := ⟨_, rfl⟩
  rw [hD]
  rw [hD] at hne
  have hone : Hid (x0 = true → D = true) := Lib.hid fun e => by rw [← hD]; exact decide_eq_true (hone.out e)
  have heq : Hid (_ → _ → D = true) := Lib.hid fun e e2 => by rw [← hD]; exact decide_eq_true (heq.out e e2)
  clear hD
  generalize kdS A = ka at a0 hne heq hkk
  generalize kdS B = kb at b0 hne heq hkk
  generalize (A.sz : Int) = sa at a9 hne heq
  generalize (B.sz : Int) = sb at b9 hne heq
  generalize vrS A = va at a1 hne heq
  generalize vrS B = vb at b1 hne heq
  generalize rwS A = ra at a4 a5 a6 a7 a8 hne heq
  generalize rwS B = rb at b4 b5 b6 b7 b8 hne heq
  obtain ⟨ra0, ra1, ra2, ra3, ra4⟩ := ra
  obtain ⟨rb0, rb1, rb2, rb3, rb4⟩ := rb
  simp only [] at a4 a5 a6 a7 a8 b4 b5 b6 b7 b8 hne heq
  have hin := fun (x0 x1 x2 x3 x4 y0 y1 y2 y3 y4 : Int) (W : World) => row_in 9997 x0 x1 x2 x3 x4 y0 y1 y2 y3 y4 W
  simp only [Nat.reduceAdd] at hin
  cases x0
  · have e1 : (ka != kb) = !(ka == kb) := rfl
    have e2 : (sa != sb) = !(sa == sb) := rfl
    have e3 : (va != vb) = !(va == vb) := rfl
    have e5 : (ka != 3) = !(ka == 3) := rfl
    cases h1 : (ka == kb)
    · have hf := Lib.hid (hne.out (by rw [h1]; rfl))
      rw [h1] at e1
      have e1 : (ka != kb) = true := e1
      go_enter Tryd.func72, Tryd.ntmps72
      go_wp2_with fail
      go_quiet (fail)
      go_wp2_with fail
      go_ret
      exact ⟨by rw [hf.out]; rfl, _, rfl⟩
    rw [h1] at e1
    have e1 : (ka != kb) = false := e1
    cases h2 : (sa == sb)
    · have hf := Lib.hid (hne.out (by rw [h1, h2]; rfl))
      rw [h2] at e2
      have e2 : (sa != sb) = true := e2
      go_enter Tryd.func72, Tryd.ntmps72
      go_wp2_with fail
      go_quiet (fail)
      go_wp2_with fail
      go_ret
      exact ⟨by rw [hf.out]; rfl, _, rfl⟩
    rw [h2] at e2
    have e2 : (sa != sb) = false := e2
    cases h3 : (va == vb)
    · have hf := Lib.hid (hne.out (by rw [h1, h2, h3]; rfl))
      rw [h3] at e3
      have e3 : (va != vb) = true := e3
      go_enter Tryd.func72, Tryd.ntmps72
      go_wp2_with fail
      go_quiet (fail)
      go_wp2_with fail
      go_ret
      exact ⟨by rw [hf.out]; rfl, _, rfl⟩
    rw [h3] at e3
    have e3 : (va != vb) = false := e3
    cases h4 : rwQ ra0 ra1 ra2 ra3 ra4 rb0 rb1 rb2 rb3 rb4
    · have hf := Lib.hid (hne.out (by rw [h1, h2, h3, h4]; rfl))
      go_enter Tryd.func72, Tryd.ntmps72
      go_wp2_with fail
      go_quiet (fail)
      go_wp2_with fail
      go_ret
      exact ⟨by rw [hf.out]; rfl, _, rfl⟩
    · have h5 : (ka == 3) = false := by
        cases hq3 : (ka == 3)
        · rfl
        · simp only [beq_iff_eq] at hq3 h1
          exact absurd ⟨hq3, h1 ▸ hq3⟩ hkk.out
      have hf := Lib.hid (heq.out (by rw [h1, h2, h3, h4]; rfl) (by intro e; rw [e] at h5; simp at h5))
      rw [h5] at e5
      have e5 : (ka != 3) = true := e5
      go_enter Tryd.func72, Tryd.ntmps72
      go_wp2_with fail
      go_quiet (fail)
      go_wp2_with fail
      go_quiet (fail)
      go_wp2_with fail
      go_ret
      exact ⟨by rw [hf.out]; rfl, _, World.drewN_drewN _ _ _⟩
  · have hf := Lib.hid (hone.out rfl)
    go_enter Tryd.func72, Tryd.ntmps72
    go_wp2_with fail
    go_ret
    exact ⟨by rw [hf.out]; rfl, 0, rfl⟩

set_option maxRecDepth 100000 in
set_option maxHeartbeats 8000000 in
theorem shSame_any : ∀ (A B : TT) (ga gb : Nat) (w : World), Hid (Shp w A ga) → Hid (Shp w B gb) → A.ok = true → B.ok = true →
    Calls Tryd.prog 72 #[ptrS ga, ptrS gb] w fun e w' => e = .returned (.bool (decide (A = B))) ∧ ∃ n, w' = w.drewN n := by
  intro A
  induction A with
  | base k => intro B ga gb w hA hB hoA hoB; exact shSame_leaf _ _ _ _ _ hA hB hoA hoB (by rintro ⟨h, _⟩; have h : k = 3 := h; subst h; simp [TT.ok] at hoA)
  | var v => intro B ga gb w hA hB hoA hoB; exact shSame_leaf _ _ _ _ _ hA hB hoA hoB (by rintro ⟨h, _⟩; have h : (2 : Int) = 3 := h; omega)
  | fn a r b iha ihb =>
    intro B ga gb w hA hB hoA hoB
    cases B with
    | base k => exact shSame_leaf _ _ _ _ _ hA hB hoA hoB (by rintro ⟨_, h⟩; have h : k = 3 := h; subst h; simp [TT.ok] at hoB)
    | var v => exact shSame_leaf _ _ _ _ _ hA hB hoA hoB (by rintro ⟨_, h⟩; have h : (2 : Int) = 3 := h; omega)
    | fn a' r' b' =>
      obtain ⟨pa, pb, hbA, hsa, hsb⟩ := hA.out
      obtain ⟨qa, qb, hbB, hta, htb⟩ := hB.out
      have cA := shC_of hbA
      have cB := shC_of hbB
      unfold TT.ok at hoA hoB
      simp only [Bool.and_eq_true] at hoA hoB
      obtain ⟨x0, hx0⟩ : ∃ x, decide (ga = gb) = x := ⟨_, rfl⟩
      have hq : (binOp .eql 65 (.pointer (some ⟨ga, 0, none⟩)) (.pointer (some ⟨gb, 0, none⟩))).run Tryd.prog w = .ok (.bool x0) w := by rw [← hx0]; exact eq_shp hA.out hB.out
      obtain ⟨D, hD⟩ : ∃ D, decide (TT.fn a r b = TT.fn a' r' b') = D := ⟨_, rfl⟩
      have hone : Hid (x0 = true → D = true) := Lib.hid fun e => by
        have e' : ga = gb := by rw [e] at hx0; exact of_decide_eq_true hx0
        subst e'; rw [← hD]; exact decide_eq_true (Shp.one hA.out hB.out)
      have hsz : Hid ((((a.sz + b.sz + 1 : Nat) : Int) == ((a'.sz + b'.sz + 1 : Nat) : Int)) = false → D = false) := Lib.hid fun e => by
        rw [← hD, decide_eq_false_iff_not]; intro h; injection h with h1 h2 h3; subst h1 h2 h3; simp at e
      have hrq : Hid (rwQ r.a r.b r.c r.d r.t r'.a r'.b r'.c r'.d r'.t = false → D = false) := Lib.hid fun e => by
        rw [← hD, decide_eq_false_iff_not]; intro h; injection h with h1 h2 h3; subst h1 h2 h3; rw [rwQ_iff] at e; simp at e
      have hrec : Hid (rwQ r.a r.b r.c r.d r.t r'.a r'.b r'.c r'.d r'.t = true → D = (decide (a = a') && decide (b = b'))) := Lib.hid fun e => by
        rw [rwQ_iff, decide_eq_true_eq] at e
        subst e
        rw [← hD, Bool.eq_iff_iff]
        simp
      have kA : Hid (∀ k n, Calls Tryd.prog 72 #[ptrS pa, ptrS qa] (w.drewN (k + n)) fun e w' => e = .returned (.bool (decide (a = a'))) ∧ ∃ m, w' = w.drewN (k + m)) := Lib.hid fun k n =>
        (iha a' pa qa (w.drewN (k + n)) (Lib.hid (hsa.keep (below_drewN (Below.refl _ _) (k + n)))) (Lib.hid (hta.keep (below_drewN (Below.refl _ _) (k + n)))) hoA.1.1 hoB.1.1).mono fun e w' ⟨h1, m, h2⟩ => ⟨h1, n + m, by rw [h2, World.drewN_drewN, Nat.add_assoc]⟩
      have kB : Hid (∀ k n, Calls Tryd.prog 72 #[ptrS pb, ptrS qb] (w.drewN (k + n)) fun e w' => e = .returned (.bool (decide (b = b'))) ∧ ∃ m, w' = w.drewN (k + m)) := Lib.hid fun k n =>
        (ihb b' pb qb (w.drewN (k + n)) (Lib.hid (hsb.keep (below_drewN (Below.refl _ _) (k + n)))) (Lib.hid (htb.keep (below_drewN (Below.refl _ _) (k + n)))) hoA.2 hoB.2).mono fun e w' ⟨h1, m, h2⟩ => ⟨h1, n + m, by rw [h2, World.drewN_drewN, Nat.add_assoc]⟩
      have hla := hA.out.lt
      have hlb := hB.out.lt
      have a0 := cA.c0; have a1 := cA.c1; have a2 := cA.c2; have a3 := cA.c3; have a9 := cA.c9; have a4 := cA.c4; have a5 := cA.c5; have a6 := cA.c6; have a7 := cA.c7; have a8 := cA.c8
      have b0 := cB.c0; have b1 := cB.c1; have b2 := cB.c2; have b3 := cB.c3; have b9 := cB.c9; have b4 := cB.c4; have b5 := cB.c5; have b6 := cB.c6; have b7 := cB.c7; have b8 := cB.c8
      clear cA cB hbA hbB hx0 hoA hoB hA hB iha ihb hsa hsb hta htb
      rw [hD]
      clear hD
      obtain ⟨ra0, ra1, ra2, ra3, ra4⟩ := r
      obtain ⟨rb0, rb1, rb2, rb3, rb4⟩ := r'
      simp only [] at a4 a5 a6 a7 a8 b4 b5 b6 b7 b8 hrq hrec
      generalize ((a.sz + b.sz + 1 : Nat) : Int) = sa at a9 hsz
      generalize ((a'.sz + b'.sz + 1 : Nat) : Int) = sb at b9 hsz
      generalize decide (a = a') = d1 at kA hrec
      generalize decide (b = b') = d2 at kB hrec
      unfold ptrS at *
      have hin := fun (x0 x1 x2 x3 x4 y0 y1 y2 y3 y4 : Int) (W : World) => row_in 9997 x0 x1 x2 x3 x4 y0 y1 y2 y3 y4 W
      simp only [Nat.reduceAdd] at hin
      have e2 : (sa != sb) = !(sa == sb) := rfl
      cases x0
      · cases h2 : (sa == sb)
        · have hf := Lib.hid (hsz.out h2)
          rw [h2] at e2
          have e2 : (sa != sb) = true := e2
          go_enter Tryd.func72, Tryd.ntmps72
          go_wp2_with fail
          go_quiet (fail)
          go_wp2_with fail
          go_ret
          exact ⟨by rw [hf.out]; rfl, _, rfl⟩
        rw [h2] at e2
        have e2 : (sa != sb) = false := e2
        cases h4 : rwQ ra0 ra1 ra2 ra3 ra4 rb0 rb1 rb2 rb3 rb4
        · have hf := Lib.hid (hrq.out h4)
          go_enter Tryd.func72, Tryd.ntmps72
          go_wp2_with fail
          go_quiet (fail)
          go_wp2_with fail
          go_ret
          exact ⟨by rw [hf.out]; rfl, _, rfl⟩
        · have hf := Lib.hid (hrec.out h4)
          cases d1
          · go_enter Tryd.func72, Tryd.ntmps72
            go_wp2_with fail
            go_quiet (fail)
            go_wp2_with fail
            go_quiet ((go_at_call 72; exact kA.out _ _))
            go_wp2_with fail
            go_ret
            exact ⟨by rw [hf.out]; rfl, _, World.drewN_drewN _ _ _⟩
          · go_enter Tryd.func72, Tryd.ntmps72
            go_wp2_with fail
            go_quiet (fail)
            go_wp2_with fail
            go_quiet ((go_at_call 72; first | with_reducible exact kA.out _ _ | with_reducible exact kB.out _ _))
            go_wp2_with fail
            go_ret
            exact ⟨by rw [hf.out]; rfl, _, World.drewN_drewN _ _ _⟩
      · have hf := Lib.hid (hone.out rfl)
        go_enter Tryd.func72, Tryd.ntmps72
        go_wp2_with fail
        go_ret
        exact ⟨by rw [hf.out]; rfl, 0, rfl⟩
end Go.Proofs.YtfkdcconmecaoaaDoor

/- Maps of numbers that the call makes, whatever their elements are. -/
/- Maps of numbers that the call makes, whatever their elements are. -/
namespace Go.Proofs.YtfkdcconmecaoaaDoor
open Go.RowKit Go.Maps
set_option linter.unusedVariables false
set_option linter.unusedSimpArgs false

def heldR (v : Value) : Option (DataW Value × List MemPlace) := some (.held v, [])
/-- block b is a map of at most n numbers that says f. -/
def MapOf (w : World) (b n : Nat) (f : Int → Option Value) : Prop :=
  ∃ D : DataW Value, w.ownsMap Tryd.prog 3 heldR b n D ∧ IsMap D ∧ ∀ v : Int, Maps.has D (.int .i64 v) = (f v).isSome ∧ ∀ x, f v = some x → ∀ z, D.atKey (.int .i64 v) z = .held x
theorem MapOf.lt {w : World} {b n : Nat} {f : Int → Option Value} (h : MapOf w b n f) : b < w.heap.size := by
  obtain ⟨D, h1, _⟩ := h; exact h1.lt
theorem MapOf.blk {w : World} {b n : Nat} {f : Int → Option Value} (h : MapOf w b n f) : ∃ es clock, w.heap[b]? = some (.map es clock) := by
  obtain ⟨D, ⟨es, clock, h1, _⟩, _⟩ := h; exact ⟨es, clock, h1⟩
theorem MapOf.mono {w : World} {b n n' : Nat} {f : Int → Option Value} (h : MapOf w b n f) (hn : n ≤ n') : MapOf w b n' f := by
  obtain ⟨D, h1, h2⟩ := h; exact ⟨D, h1.mono hn, h2⟩
theorem MapOf.bar {S : Nat → Prop} {w w' : World} {b n : Nat} {f : Int → Option Value} (h : MapOf w b n f) (hb : Bar S w w') (hn : ¬ S b) : MapOf w' b n f := by
  have hl := h.lt
  obtain ⟨D, ⟨es, clock, h1, h3⟩, h2⟩ := h
  exact ⟨D, ⟨es, clock, (hb.block b hl hn).trans h1, h3⟩, h2⟩
theorem MapOf.below {w w' : World} {b n : Nat} {f : Int → Option Value} (h : MapOf w b n f) (hb : Below w.heap.size w w') : MapOf w' b n f :=
  h.bar (Bar.of_below (S := fun _ => False) hb) id
theorem MapOf.alloc {w : World} {b n : Nat} {f : Int → Option Value} (o : Obj) (h : MapOf w b n f) : MapOf (w.alloc o) b n f := h.below (below_alc _ _)
theorem mapOf_made (w : World) : MapOf (w.alloc (.map #[] 0)) w.heap.size 0 (fun _ => none) :=
  ⟨.map [], World.ownsMap_made w _ _ _, isMap_empty, fun v => ⟨rfl, fun x h => by cases h⟩⟩
theorem MapOf.ne {w : World} {b n g o : Nat} {f : Int → Option Value} {v : Value} (h : MapOf w b n f) (hc : w.cell? ⟨g, o, none⟩ = some v) : g ≠ b := by
  rintro rfl
  obtain ⟨es, clock, h1⟩ := h.blk
  unfold World.cell? at hc
  simp [h1] at hc
theorem Bar.mono {S S' : Nat → Prop} {w w' : World} (h : Bar S w w') (hs : ∀ k, S k → S' k) : Bar S' w w' := ⟨h.os, h.tape, h.output, h.size, fun k hk hn => h.block k hk (fun hc => hn (hs k hc))⟩
theorem wfI {v : Int} (h : -9223372036854775808 ≤ v ∧ v ≤ 9223372036854775807) : keyOf Tryd.prog 3 (.int .i64 v) = some (.int .i64 v) :=
  keyOf_int_mk Tryd.underlying3 (by simp [Lit.wf, IntKind.min, IntKind.max, IntKind.signed, IntKind.bits]; omega)
/-- a look-up, whatever comes of it. -/
theorem look_run {w : World} {b n : Nat} {f : Int → Option Value} (h : MapOf w b n f) (t e : TypeId) (z : Value) (ht : Tryd.prog.underlying t = some (.map 3 e)) (hz : (zeroValue e).run Tryd.prog w = .ok z w)
    (v : Int) (hwf : -9223372036854775808 ≤ v ∧ v ≤ 9223372036854775807) : (Instr.lookup t (.map (some b)) (.int .i64 v) true).run Tryd.prog w = .ok (.tuple #[(f v).getD z, .bool (f v).isSome]) w := by
  obtain ⟨D, h1, h2, h3⟩ := h
  obtain ⟨h4, h6⟩ := h3 v
  obtain ⟨u, ps, hr, hu⟩ := h1.look_ok lawI ht hz (zd := .held z) (zp := []) rfl (wfI hwf)
  rw [hr, h4]
  have e2 : heldR u = some (.held u, []) := rfl
  rw [e2] at hu
  cases hf : f v with
  | none =>
    rw [hf] at h4
    rw [atKey_of_not_has (show Maps.has D (.int .i64 v) = false from h4)] at hu
    have hu := DataW.held.inj (Prod.mk.inj (Option.some.inj hu)).1
    rw [hu]; rfl
  | some x =>
    rw [h6 x hf] at hu
    have hu := DataW.held.inj (Prod.mk.inj (Option.some.inj hu)).1
    rw [hu]; rfl
theorem mput_run {w : World} {b n : Nat} {f : Int → Option Value} (h : MapOf w b n f) (t e : TypeId) (ht : Tryd.prog.underlying t = some (.map 3 e)) (hn : n < 1099511627776)
    (v : Int) (hwf : -9223372036854775808 ≤ v ∧ v ≤ 9223372036854775807) (u : Value) : ∃ w', (Instr.mapUpdate t (.map (some b)) (.int .i64 v) u).run Tryd.prog w = .ok () w' ∧ MapOf w' b (n + 1) (upd f v u) ∧ Bar (fun k => k = b) w w' := by
  obtain ⟨D, h1, h2, h3⟩ := h
  obtain ⟨w', hr, h4, h5⟩ := h1.update (val := u) lawI ht (by unfold maxLen; omega) (wfI hwf) (d := .held u) (ps := []) rfl
  refine ⟨w', hr, ⟨_, h4, h2.put _ _, fun v' => ?_⟩, ((Bar.of_grown h5).mono fun k hk => ?_)⟩
  · unfold upd
    by_cases hv : v' = v
    · subst hv
      rw [if_pos rfl]
      refine ⟨has_put_same h2 (by trivial) _, fun q hq z => ?_⟩
      have hq := Option.some.inj hq; subst hq
      exact atKey_put_same h2 (by trivial) _ _
    · have hne : (Lit.int .i64 v') ≠ (Lit.int .i64 v) := fun e => hv (by injection e)
      rw [if_neg hv]
      obtain ⟨h6, h7⟩ := h3 v'
      refine ⟨(has_put_other hne _).trans h6, fun q hq z => ?_⟩
      rw [atKey_put_other hne]
      exact h7 q hq z
  · have : some b = some k := hk
    exact (Option.some.inj this).symm
/-- 'v, ok := m[k]': what is not there. -/
theorem op_look0 {ops : Array Oper} {rest : List Oper} {o : Oper} {a : Act} {Q : Exit → Act → World → Prop} (hgd : o.guard = none) (m x : Operand) (t e : TypeId) (z : Value) (w : World)
    (hop : o.op = Op.lookup t m x true) (ht : Tryd.prog.underlying t = some (.map 3 e)) (hz : (zeroValue e).run Tryd.prog w = .ok z w) (b n : Nat) (f : Int → Option Value) (hm : a.eval m = .map (some b)) (h : MapOf w b n f)
    (v : Int) (hwf : -9223372036854775808 ≤ v ∧ v ≤ 9223372036854775807) (hx : a.eval x = .int .i64 v) (hf : f v = none)
    (hK : wpList Tryd.prog ops Q rest (a.put o.dst (.tuple #[z, .bool false])) w) : wpList Tryd.prog ops Q (o :: rest) a w := by
  obtain ⟨D, h1, h2, h3⟩ := h
  obtain ⟨h4, _⟩ := h3 v
  rw [hf] at h4
  have h4 : Maps.has D (.int .i64 v) = false := h4
  refine wpList_lookup_own_ok w hgd m x t hop _ e lawI ht heldR hz (.held z) [] rfl b n D hm h1 _ _ hx (wfI hwf) ?_
  intro u ps hu
  rw [h4]
  have h5 : u = z := by
    have e2 : heldR u = some (.held u, []) := rfl
    rw [e2] at hu
    rw [(atKey_of_not_has h4 _)] at hu
    exact DataW.held.inj (Prod.mk.inj (Option.some.inj hu)).1
  rw [h5]; exact hK
/-- .. what is. -/
theorem op_look1 {ops : Array Oper} {rest : List Oper} {o : Oper} {a : Act} {Q : Exit → Act → World → Prop} (hgd : o.guard = none) (m x : Operand) (t e : TypeId) (z : Value) (w : World)
    (hop : o.op = Op.lookup t m x true) (ht : Tryd.prog.underlying t = some (.map 3 e)) (hz : (zeroValue e).run Tryd.prog w = .ok z w) (b n : Nat) (f : Int → Option Value) (hm : a.eval m = .map (some b)) (h : MapOf w b n f)
    (v : Int) (hwf : -9223372036854775808 ≤ v ∧ v ≤ 9223372036854775807) (hx : a.eval x = .int .i64 v) (y : Value) (hf : f v = some y)
    (hK : wpList Tryd.prog ops Q rest (a.put o.dst (.tuple #[y, .bool true])) w) : wpList Tryd.prog ops Q (o :: rest) a w := by
  obtain ⟨D, h1, h2, h3⟩ := h
  obtain ⟨h4, h6⟩ := h3 v
  have h6 := h6 y hf
  rw [hf] at h4
  have h4 : Maps.has D (.int .i64 v) = true := h4
  refine wpList_lookup_own_ok w hgd m x t hop _ e lawI ht heldR hz (.held z) [] rfl b n D hm h1 _ _ hx (wfI hwf) ?_
  intro u ps hu
  rw [h4]
  have h5 : u = y := by
    have e2 : heldR u = some (.held u, []) := rfl
    rw [e2, h6] at hu
    exact DataW.held.inj (Prod.mk.inj (Option.some.inj hu)).1
  rw [h5]; exact hK
/-- 'm[k] = v'. -/
theorem op_mput {ops : Array Oper} {rest : List Oper} {o : Oper} {a : Act} {Q : Exit → Act → World → Prop} (hgd : o.guard = none) (m x y : Operand) (t e : TypeId) (w : World)
    (hop : o.op = Op.mapUpdate t m x y) (ht : Tryd.prog.underlying t = some (.map 3 e)) (b n : Nat) (f : Int → Option Value) (hm : a.eval m = .map (some b)) (h : MapOf w b n f) (hn : n < 1099511627776)
    (v : Int) (hwf : -9223372036854775808 ≤ v ∧ v ≤ 9223372036854775807) (hx : a.eval x = .int .i64 v) (u : Value) (hy : a.eval y = u)
    (hK : ∀ w', MapOf w' b (n + 1) (upd f v u) → Bar (fun k => k = b) w w' → wpList Tryd.prog ops Q rest (a.put o.dst undef) w') : wpList Tryd.prog ops Q (o :: rest) a w := by
  obtain ⟨D, h1, h2, h3⟩ := h
  refine wpList_mapUpdate_own w hgd m x y t hop _ e lawI ht heldR b n D hm h1 (by unfold maxLen; omega) _ _ _ hx hy (wfI hwf) (.held u) [] rfl ?_
  intro w' h4 h5
  refine hK w' ⟨_, h4, h2.put _ _, fun v' => ?_⟩ ((Bar.of_grown h5).mono fun k hk => ?_)
  · unfold upd
    by_cases hv : v' = v
    · subst hv
      rw [if_pos rfl]
      refine ⟨has_put_same h2 (by trivial) _, fun q hq z => ?_⟩
      have hq := Option.some.inj hq; subst hq
      exact atKey_put_same h2 (by trivial) _ _
    · have hne : (Lit.int .i64 v') ≠ (Lit.int .i64 v) := fun e => hv (by injection e)
      rw [if_neg hv]
      obtain ⟨h6, h7⟩ := h3 v'
      refine ⟨(has_put_other hne _).trans h6, fun q hq z => ?_⟩
      rw [atKey_put_other hne]
      exact h7 q hq z
  · have : some b = some k := hk
    exact (Option.some.inj this).symm
end Go.Proofs.YtfkdcconmecaoaaDoor

/- What a matcher knows; its rows. -/
/- What a matcher knows; its rows. -/
namespace Go.Proofs.YtfkdcconmecaoaaDoor
open Go.RowKit Go.Maps
set_option linter.unusedVariables false
set_option linter.unusedSimpArgs false

def ShO (w : World) : Option TT → Option Nat → Prop
  | none, none => True
  | some T, some g => Shp w T g
  | _, _ => False
def ftV (ft : Int → Option Nat) (v : Int) : Option Value := (ft v).map ptrS
def rmV (r : Int → Option Rw) (v : Int) : Option Value := (r v).map fun q => .agg #[.int .i64 q.a, .int .i64 q.b, .int .i64 q.c, .int .i64 q.d, .int .i64 q.t]
/-- a matcher, in memory. -/
def MtAt (w : World) (gm b1 b2 n : Nat) (m : MS) : Prop :=
  gm < w.heap.size ∧ w.cell? ⟨gm, 0, none⟩ = some (.map (some b1)) ∧ w.cell? ⟨gm, 1, none⟩ = some (.map (some b2)) ∧ b1 ≠ b2 ∧ (∃ ft, MapOf w b1 n (ftV ft) ∧ ∀ v, ShO w (m.s v) (ft v)) ∧ MapOf w b2 n (rmV m.r)
theorem ShO.below {w w' : World} {T : Option TT} {g : Option Nat} (h : ShO w T g) (hb : Below w.heap.size w w') : ShO w' T g := by
  cases T <;> cases g <;> first | exact h | exact Shp.keep h hb
theorem MtAt.below {w w' : World} {gm b1 b2 n : Nat} {m : MS} (h : MtAt w gm b1 b2 n m) (hb : Below w.heap.size w w') : MtAt w' gm b1 b2 n m := by
  obtain ⟨h1, h2, h3, h4, ⟨ft, h5, h6⟩, h7⟩ := h
  exact ⟨by have := hb.size; omega, carry hb h1 h2, carry hb h1 h3, h4, ⟨ft, h5.below hb, fun v => (h6 v).below hb⟩, h7.below hb⟩
/-- a shape stays while maps turn. -/
theorem Shp.maps {w w' : World} {b1 b2 : Nat} (hb : Bar (fun k => k = b1 ∨ k = b2) w w') (m1 : ∃ es clock, w.heap[b1]? = some (.map es clock)) (m2 : ∃ es clock, w.heap[b2]? = some (.map es clock)) : ∀ {T : TT} {g : Nat}, Shp w T g → Shp w' T g := by
  have ne : ∀ {T : TT} {g : Nat}, Shp w T g → ¬ (g = b1 ∨ g = b2) := by
    intro T g h e
    obtain ⟨pa, pb, hk⟩ := h.blk
    obtain ⟨es1, c1, m1⟩ := m1
    obtain ⟨es2, c2, m2⟩ := m2
    unfold shB at hk
    rcases e with rfl | rfl
    · rw [m1] at hk; cases hk
    · rw [m2] at hk; cases hk
  have stay : ∀ {T : TT} {g : Nat}, Shp w T g → w'.heap[g]? = w.heap[g]? := fun h => hb.block _ h.lt (ne h)
  intro T
  induction T with
  | base k' => intro g h; exact ⟨h.1, by rw [stay h]; exact h.2⟩
  | var v' => intro g h; show w'.heap[g]? = _; rw [stay h]; exact h
  | fn a r b iha ihb =>
    intro g h
    have hst := stay h
    obtain ⟨ga, gb, h1, h2, h3⟩ := h
    exact ⟨ga, gb, by rw [hst]; exact h1, iha h2, ihb h3⟩
theorem MtAt.maps {w : World} {gm b1 b2 n : Nat} {m : MS} (h : MtAt w gm b1 b2 n m) : (∃ es clock, w.heap[b1]? = some (.map es clock)) ∧ ∃ es clock, w.heap[b2]? = some (.map es clock) := by
  obtain ⟨_, _, _, _, ⟨_, h5, _⟩, h7⟩ := h
  exact ⟨h5.blk, h7.blk⟩
theorem MtAt.shp {w w' : World} {gm b1 b2 n : Nat} {m : MS} (h : MtAt w gm b1 b2 n m) (hb : Bar (fun k => k = b1 ∨ k = b2) w w') {T : TT} {g : Nat} (hs : Shp w T g) : Shp w' T g := hs.maps hb h.maps.1 h.maps.2
theorem ShO.maps {w w' : World} {gm b1 b2 n : Nat} {m : MS} (h : MtAt w gm b1 b2 n m) (hb : Bar (fun k => k = b1 ∨ k = b2) w w') {T : Option TT} {g : Option Nat} (hs : ShO w T g) : ShO w' T g := by
  cases T <;> cases g <;> first | exact hs | exact h.shp hb hs
/-- a row more. -/
theorem MtAt.putR {w w' : World} {gm b1 b2 n : Nat} {m : MS} {t : Int} {q : Rw} (h : MtAt w gm b1 b2 n m) (hM : MapOf w' b2 (n + 1) (upd (rmV m.r) t (.agg #[.int .i64 q.a, .int .i64 q.b, .int .i64 q.c, .int .i64 q.d, .int .i64 q.t]))) (hb : Bar (fun k => k = b2) w w') : MtAt w' gm b1 b2 (n + 1) ⟨m.s, upd m.r t q⟩ := by
  have hb2 : Bar (fun k => k = b1 ∨ k = b2) w w' := hb.mono fun k hk => .inr hk
  have hsh := fun v ft (hs : ShO w (m.s v) ft) => ShO.maps h hb2 hs
  obtain ⟨h1, h2, h3, h4, ⟨ft, h5, h6⟩, h7⟩ := h
  refine ⟨by have := hb.size; omega, hb.cell h2 (h7.ne h2), hb.cell h3 (h7.ne h3), h4, ⟨ft, (h5.bar hb h4).mono (by omega), fun v => hsh v _ (h6 v)⟩, ?_⟩
  have e : rmV (upd m.r t q) = upd (rmV m.r) t (.agg #[.int .i64 q.a, .int .i64 q.b, .int .i64 q.c, .int .i64 q.d, .int .i64 q.t]) := by
    funext v; unfold rmV upd; split <;> rfl
  show MapOf w' b2 (n + 1) (rmV (upd m.r t q))
  rw [e]; exact hM
/-- a type more. -/
theorem MtAt.putS {w w' : World} {gm b1 b2 n g : Nat} {m : MS} {v : Int} {T : TT} (h : MtAt w gm b1 b2 n m) (hT : Shp w T g) (hM : ∀ ft, MapOf w b1 n (ftV ft) → MapOf w' b1 (n + 1) (upd (ftV ft) v (ptrS g))) (hb : Bar (fun k => k = b1) w w') : MtAt w' gm b1 b2 (n + 1) ⟨upd m.s v T, m.r⟩ := by
  have hb2 : Bar (fun k => k = b1 ∨ k = b2) w w' := hb.mono fun k hk => .inl hk
  have hsh := fun v ft (hs : ShO w (m.s v) ft) => ShO.maps h hb2 hs
  have hT' := h.shp hb2 hT
  obtain ⟨h1, h2, h3, h4, ⟨ft, h5, h6⟩, h7⟩ := h
  refine ⟨by have := hb.size; omega, hb.cell h2 (h5.ne h2), hb.cell h3 (h5.ne h3), h4, ⟨upd ft v g, ?_, ?_⟩, (h7.bar hb (fun e => h4 e.symm)).mono (by omega)⟩
  · have e : ftV (upd ft v g) = upd (ftV ft) v (ptrS g) := by
      funext u; unfold ftV upd; split <;> rfl
    rw [e]; exact hM ft h5
  · intro u
    show ShO w' (upd m.s v T u) (upd ft v g u)
    unfold upd
    by_cases hu : u = v
    · rw [if_pos hu, if_pos hu]; exact hT'
    · rw [if_neg hu, if_neg hu]; exact hsh u _ (h6 u)
/-- a row that may be written. -/
def RwFr (w : World) (g : Nat) (r : Rw) : Prop := RowAt w g r ∧ w.frozen? ⟨g, 0, none⟩ = false ∧ w.frozen? ⟨g, 1, none⟩ = false ∧ w.frozen? ⟨g, 2, none⟩ = false ∧ w.frozen? ⟨g, 3, none⟩ = false ∧ w.frozen? ⟨g, 4, none⟩ = false
theorem rwfr_lit (w : World) (T : TypeId) (g : Nat) (r : Rw) (hg : g = w.heap.size) : RwFr (w.alloc (.cells #[.int .i64 r.a, .int .i64 r.b, .int .i64 r.c, .int .i64 r.d, .int .i64 r.t] T)) g r := by
  subst hg
  exact ⟨row_lit _ _ _ _ rfl, by simp [go_sem], by simp [go_sem], by simp [go_sem], by simp [go_sem], by simp [go_sem]⟩
theorem RwFr.below {w w' : World} {g : Nat} {r : Rw} (h : RwFr w g r) (hb : Below w.heap.size w w') : RwFr w' g r := by
  obtain ⟨h0, h1, h2, h3, h4, h5⟩ := h
  have hl := h0.1
  exact ⟨h0.below hb, (hb.frozen (p := ⟨g, 0, none⟩) hl).trans h1, (hb.frozen (p := ⟨g, 1, none⟩) hl).trans h2, (hb.frozen (p := ⟨g, 2, none⟩) hl).trans h3, (hb.frozen (p := ⟨g, 3, none⟩) hl).trans h4, (hb.frozen (p := ⟨g, 4, none⟩) hl).trans h5⟩
theorem fz_set {w : World} {p q : Addr} {v : Value} {b : Bool} (h : w.frozen? q = b) : (w.setCell p v).frozen? q = b := by simpa [go_sem] using h
theorem RwFr.set {w : World} {g o : Nat} {v : Int} {a b c d t a' b' c' d' : Int} (h : RwFr w g ⟨a, b, c, d, t⟩) (ho : (o = 0 ∧ a' = v ∧ b' = b ∧ c' = c ∧ d' = d) ∨ (o = 1 ∧ a' = a ∧ b' = v ∧ c' = c ∧ d' = d) ∨ (o = 2 ∧ a' = a ∧ b' = b ∧ c' = v ∧ d' = d) ∨ (o = 3 ∧ a' = a ∧ b' = b ∧ c' = c ∧ d' = v)) : RwFr (w.setCell ⟨g, o, none⟩ (.int .i64 v)) g ⟨a', b', c', d', t⟩ := by
  obtain ⟨⟨h0, h1, h2, h3, h4, h5⟩, f1, f2, f3, f4, f5⟩ := h
  have hl : g < (w.setCell ⟨g, o, none⟩ (.int .i64 v)).heap.size := by simpa using h0
  have ne : ∀ i j : Nat, i ≠ j → (⟨g, i, none⟩ : Addr) ≠ ⟨g, j, none⟩ := by intro i j h e; injection e with _ e; exact h e
  refine ⟨?_, fz_set f1, fz_set f2, fz_set f3, fz_set f4, fz_set f5⟩
  rcases ho with ⟨rfl, rfl, rfl, rfl, rfl⟩ | ⟨rfl, rfl, rfl, rfl, rfl⟩ | ⟨rfl, rfl, rfl, rfl, rfl⟩ | ⟨rfl, rfl, rfl, rfl, rfl⟩
  · exact ⟨hl, setS h1, setO h2 (ne _ _ (by decide)), setO h3 (ne _ _ (by decide)), setO h4 (ne _ _ (by decide)), setO h5 (ne _ _ (by decide))⟩
  · exact ⟨hl, setO h1 (ne _ _ (by decide)), setS h2, setO h3 (ne _ _ (by decide)), setO h4 (ne _ _ (by decide)), setO h5 (ne _ _ (by decide))⟩
  · exact ⟨hl, setO h1 (ne _ _ (by decide)), setO h2 (ne _ _ (by decide)), setS h3, setO h4 (ne _ _ (by decide)), setO h5 (ne _ _ (by decide))⟩
  · exact ⟨hl, setO h1 (ne _ _ (by decide)), setO h2 (ne _ _ (by decide)), setO h3 (ne _ _ (by decide)), setS h4, setO h5 (ne _ _ (by decide))⟩
theorem RowAt.put {w : World} {g k o : Nat} {v : Value} {r : Rw} (h : RowAt w g r) (hn : g ≠ k) : RowAt (w.setCell ⟨k, o, none⟩ v) g r := by
  obtain ⟨h0, h1, h2, h3, h4, h5⟩ := h
  have ne : ∀ q, (⟨k, o, none⟩ : Addr) ≠ ⟨g, q, none⟩ := by intro q e; injection e with e; omega
  exact ⟨by simpa using h0, setO h1 (ne _), setO h2 (ne _), setO h3 (ne _), setO h4 (ne _), setO h5 (ne _)⟩
def subK : Nat → Rw → Rw → Rw
  | 0, s, _ => s
  | 1, s, g => ⟨s.a - g.a, s.b, s.c, s.d, s.t⟩
  | 2, s, g => ⟨s.a - g.a, s.b - g.b, s.c, s.d, s.t⟩
  | 3, s, g => ⟨s.a - g.a, s.b - g.b, s.c - g.c, s.d, s.t⟩
  | _, s, g => subRw s g
end Go.Proofs.YtfkdcconmecaoaaDoor

/- (*matcher).row. -/
namespace Go.Proofs.YtfkdcconmecaoaaDoor
open Go.RowKit Go.Maps
set_option linter.unusedVariables false
set_option linter.unusedSimpArgs false

def MrPost (gm b1 b2 n : Nat) (r : Option MS) (w : World) (e : Ending) (w' : World) : Prop :=
  e = .returned (.bool r.isSome) ∧ Bar (fun k => k = b1 ∨ k = b2) w w' ∧ ∀ m', r = some m' → MtAt w' gm b1 b2 n m'
theorem MtAt.mono {w : World} {gm b1 b2 n n' : Nat} {m : MS} (h : MtAt w gm b1 b2 n m) (hn : n ≤ n') : MtAt w gm b1 b2 n' m := by
  obtain ⟨h1, h2, h3, h4, ⟨ft, h5, h6⟩, h7⟩ := h
  exact ⟨h1, h2, h3, h4, ⟨ft, h5.mono hn, h6⟩, h7.mono hn⟩
def GeK (k : Nat) (s g : Rw) : Prop := (1 ≤ k → g.a ≤ s.a) ∧ (2 ≤ k → g.b ≤ s.b) ∧ (3 ≤ k → g.c ≤ s.c) ∧ (4 ≤ k → g.d ≤ s.d)
theorem zeroRw (w : World) : (zeroValue 36).run Tryd.prog w = .ok (.agg #[.int .i64 0, .int .i64 0, .int .i64 0, .int .i64 0, .int .i64 0]) w := by kernel_rfl
theorem mtR_neg {g s : Rw} {m : MS} (h : g.t < 0) : mtR g s m = if rwQ g.a g.b g.c g.d g.t s.a s.b s.c s.d s.t then some m else none := by
  unfold mtR
  rw [if_pos h, rwQ_iff]
  by_cases e : g = s
  · rw [if_pos e, if_pos (decide_eq_true e)]
  · rw [if_neg e, if_neg (by rw [decide_eq_false e]; simp)]
theorem mtR_less {g s : Rw} {m : MS} (h : ¬ g.t < 0) (h2 : geR s g = false) : mtR g s m = none := by
  unfold mtR; rw [if_neg h, h2]; rfl
theorem mtR_new {g s : Rw} {m : MS} (h : ¬ g.t < 0) (h2 : geR s g = true) (h3 : m.r g.t = none) : mtR g s m = some ⟨m.s, upd m.r g.t (subRw s g)⟩ := by
  unfold mtR; rw [if_neg h, if_pos h2, h3]
theorem mtR_old {g s q : Rw} {m : MS} (h : ¬ g.t < 0) (h2 : geR s g = true) (h3 : m.r g.t = some q) : mtR g s m = if rwQ q.a q.b q.c q.d q.t (subRw s g).a (subRw s g).b (subRw s g).c (subRw s g).d (subRw s g).t then some m else none := by
  unfold mtR; rw [if_neg h, if_pos h2, h3, rwQ_iff]
  by_cases e : q = subRw s g
  · simp only [e, if_true, decide_true]
  · simp only [e, if_false, decide_false, Bool.false_eq_true]
set_option maxRecDepth 100000 in
set_option maxHeartbeats 8000000 in
theorem mtRow_any (gm b1 b2 n : Nat) (m : MS) (ga gb gc gd gt sa sb sc sd st : Int) (w : World) (h : Hid (MtAt w gm b1 b2 n m)) (hn : n ≤ 1000000) (hg : Rw.may ⟨ga, gb, gc, gd, gt⟩ = true) (hs : Rw.may ⟨sa, sb, sc, sd, st⟩ = true) :
    Calls Tryd.prog 73 #[.pointer (some ⟨gm, 0, none⟩), .agg #[.int .i64 ga, .int .i64 gb, .int .i64 gc, .int .i64 gd, .int .i64 gt], .agg #[.int .i64 sa, .int .i64 sb, .int .i64 sc, .int .i64 sd, .int .i64 st]] w (MrPost gm b1 b2 (n + 1) (mtR ⟨ga, gb, gc, gd, gt⟩ ⟨sa, sb, sc, sd, st⟩ m) w) := by
  have hin := fun (x0 x1 x2 x3 x4 y0 y1 y2 y3 y4 : Int) (W : World) => row_in 9997 x0 x1 x2 x3 x4 y0 y1 y2 y3 y4 W
  simp only [Nat.reduceAdd] at hin
  by_cases ht : gt < 0
  · have hfin : Hid (∀ x, rwQ ga gb gc gd gt sa sb sc sd st = x → ∀ W, Below w.heap.size w W → MrPost gm b1 b2 (n + 1) (mtR ⟨ga, gb, gc, gd, gt⟩ ⟨sa, sb, sc, sd, st⟩ m) w (.returned (.bool x)) W) := Lib.hid fun x hx W hW => by
      rw [mtR_neg (show (⟨ga, gb, gc, gd, gt⟩ : Rw).t < 0 from ht)]
      simp only [hx]
      cases x
      · exact ⟨rfl, Bar.of_below hW, fun m' h' => by cases h'⟩
      · exact ⟨rfl, Bar.of_below hW, fun m' h' => by cases h'; exact (h.out.below hW).mono (by omega)⟩
    generalize mtR ⟨ga, gb, gc, gd, gt⟩ ⟨sa, sb, sc, sd, st⟩ m = R at hfin ⊢
    clear h hg hs
    obtain ⟨x, hx⟩ : ∃ x, rwQ ga gb gc gd gt sa sb sc sd st = x := ⟨_, rfl⟩
    go_enter Tryd.func73, Tryd.ntmps73
    go_wp2_with fail
    go_ret
    exact hfin.out x hx _ (by (repeat' (first | with_reducible exact Below.refl _ _ | with_reducible assumption | with_reducible apply Below.setCell | with_reducible apply Below.alloc | with_reducible apply Below.drew | with_reducible apply below_drewN | with_reducible exact Nat.le_refl _ | (simp; done) | (simp; omega) | omega | exact Nat.le_refl _)))
  have hg := of_decide_eq_true (show mayR ga gb gc gd gt = true from hg)
  have hs := of_decide_eq_true (show mayR sa sb sc sd st = true from hs)
  have hi0 : Hid (∀ W : World, (Instr.index 34 (.agg #[.int .i64 ga, .int .i64 gb, .int .i64 gc, .int .i64 gd]) (.int .i64 0)).run Tryd.prog W = .ok (.int .i64 ga) W) := Lib.hid fun _ => by kernel_rfl
  have hi1 : Hid (∀ W : World, (Instr.index 34 (.agg #[.int .i64 ga, .int .i64 gb, .int .i64 gc, .int .i64 gd]) (.int .i64 1)).run Tryd.prog W = .ok (.int .i64 gb) W) := Lib.hid fun _ => by kernel_rfl
  have hi2 : Hid (∀ W : World, (Instr.index 34 (.agg #[.int .i64 ga, .int .i64 gb, .int .i64 gc, .int .i64 gd]) (.int .i64 2)).run Tryd.prog W = .ok (.int .i64 gc) W) := Lib.hid fun _ => by kernel_rfl
  have hi3 : Hid (∀ W : World, (Instr.index 34 (.agg #[.int .i64 ga, .int .i64 gb, .int .i64 gc, .int .i64 gd]) (.int .i64 3)).run Tryd.prog W = .ok (.int .i64 gd) W) := Lib.hid fun _ => by kernel_rfl
  have hfin0 : Hid (∀ W, Below w.heap.size w W → geR ⟨sa, sb, sc, sd, st⟩ ⟨ga, gb, gc, gd, gt⟩ = false → MrPost gm b1 b2 (n + 1) (mtR ⟨ga, gb, gc, gd, gt⟩ ⟨sa, sb, sc, sd, st⟩ m) w (.returned (.bool false)) W) := Lib.hid fun W hW hge => by
    rw [mtR_less (show ¬ (⟨ga, gb, gc, gd, gt⟩ : Rw).t < 0 from ht) hge]
    exact ⟨rfl, Bar.of_below hW, fun m' h' => by cases h'⟩
  have hM := Lib.hid fun (W : World) (hW : Below w.heap.size w W) => h.out.below hW
  have hfin1 : Hid (geR ⟨sa, sb, sc, sd, st⟩ ⟨ga, gb, gc, gd, gt⟩ = true → m.r gt = none → ∀ W W', Below w.heap.size w W → Bar (fun k => k = b2) W W' → MapOf W' b2 (n + 1) (upd (rmV m.r) gt (.agg #[.int .i64 (sa - ga), .int .i64 (sb - gb), .int .i64 (sc - gc), .int .i64 (sd - gd), .int .i64 st])) → MrPost gm b1 b2 (n + 1) (mtR ⟨ga, gb, gc, gd, gt⟩ ⟨sa, sb, sc, sd, st⟩ m) w (.returned (.bool true)) W') := Lib.hid fun hge hr W W' hW hB hM' => by
    rw [mtR_new (show ¬ (⟨ga, gb, gc, gd, gt⟩ : Rw).t < 0 from ht) hge hr]
    refine ⟨rfl, (Bar.of_below (S := fun k => k = b1 ∨ k = b2) hW).trans hB fun k _ hk => .inr hk, fun m' h' => ?_⟩
    cases h'
    exact MtAt.putR (q := subRw ⟨sa, sb, sc, sd, st⟩ ⟨ga, gb, gc, gd, gt⟩) (hM.out W hW) hM' hB
  have hfin2 : Hid (geR ⟨sa, sb, sc, sd, st⟩ ⟨ga, gb, gc, gd, gt⟩ = true → ∀ q, m.r gt = some q → ∀ x, rwQ q.a q.b q.c q.d q.t (sa - ga) (sb - gb) (sc - gc) (sd - gd) st = x → ∀ W, Below w.heap.size w W → MrPost gm b1 b2 (n + 1) (mtR ⟨ga, gb, gc, gd, gt⟩ ⟨sa, sb, sc, sd, st⟩ m) w (.returned (.bool x)) W) := Lib.hid fun hge q hr x hx W hW => by
    rw [mtR_old (show ¬ (⟨ga, gb, gc, gd, gt⟩ : Rw).t < 0 from ht) hge hr]
    have hx : rwQ q.a q.b q.c q.d q.t (subRw ⟨sa, sb, sc, sd, st⟩ ⟨ga, gb, gc, gd, gt⟩).a (subRw ⟨sa, sb, sc, sd, st⟩ ⟨ga, gb, gc, gd, gt⟩).b (subRw ⟨sa, sb, sc, sd, st⟩ ⟨ga, gb, gc, gd, gt⟩).c (subRw ⟨sa, sb, sc, sd, st⟩ ⟨ga, gb, gc, gd, gt⟩).d (subRw ⟨sa, sb, sc, sd, st⟩ ⟨ga, gb, gc, gd, gt⟩).t = x := hx
    rw [hx]
    cases x
    · exact ⟨rfl, Bar.of_below hW, fun m' h' => by cases h'⟩
    · exact ⟨rfl, Bar.of_below hW, fun m' h' => by cases h'; exact (hM.out W hW).mono (by omega)⟩
  generalize mtR ⟨ga, gb, gc, gd, gt⟩ ⟨sa, sb, sc, sd, st⟩ m = R at hfin0 hfin1 hfin2 ⊢
  have hgl := h.out.1
  clear h
  have w0 : IntKind.i64.wrap (sa - ga) = sa - ga := IntWalk.i64_in _ (by omega)
  have w1 : IntKind.i64.wrap (sb - gb) = sb - gb := IntWalk.i64_in _ (by omega)
  have w2 : IntKind.i64.wrap (sc - gc) = sc - gc := IntWalk.i64_in _ (by omega)
  have w3 : IntKind.i64.wrap (sd - gd) = sd - gd := IntWalk.i64_in _ (by omega)
  go_enter Tryd.func73, Tryd.ntmps73
  go_wp2_with fail
  go_loopw [21] (fun i wr => ∃ (k : Nat) (z : Int), k ≤ 4 ∧ i = .int .i64 z ∧ z = k ∧ Hid (GeK k ⟨sa, sb, sc, sd, st⟩ ⟨ga, gb, gc, gd, gt⟩) ∧ Hid (Below w.heap.size w wr) ∧ Hid (RowAt wr w.heap.size ⟨ga, gb, gc, gd, gt⟩) ∧ Hid (RwFr wr (w.heap.size + 2) (subK k ⟨sa, sb, sc, sd, st⟩ ⟨ga, gb, gc, gd, gt⟩))) (fun i _ => 4 - (intOf i).toNat)
  case atStart =>
    exact ⟨0, 0, by omega, rfl, rfl, Lib.hid ⟨by omega, by omega, by omega, by omega⟩, Lib.hid (by (repeat' (first | with_reducible exact Below.refl _ _ | with_reducible assumption | with_reducible apply Below.setCell | with_reducible apply Below.alloc | with_reducible apply Below.drew | with_reducible apply below_drewN | with_reducible exact Nat.le_refl _ | (simp; done) | (simp; omega) | omega | exact Nat.le_refl _))), Lib.hid (RowAt.alloc _ (RowAt.alloc _ (row_lit _ _ _ ⟨ga, gb, gc, gd, gt⟩ rfl))), Lib.hid (rwfr_lit _ _ _ ⟨sa, sb, sc, sd, st⟩ (by simp))⟩
  case round =>
    obtain ⟨k, z, hk, rfl, hz, hG, hB, hA, hF⟩ := hrel
    have hk5 : k = 0 ∨ k = 1 ∨ k = 2 ∨ k = 3 ∨ k = 4 := by omega
    rcases hk5 with rfl | rfl | rfl | rfl | rfl
    · obtain rfl : z = 0 := by omega
      clear hz
      have j0 := hi0.out
      obtain ⟨⟨y0, y1, y2, y3, y4, y5⟩, f1, f2, f3, f4, f5⟩ := hF.out
      simp only [subK] at y1 y2 y3 y4 y5
      by_cases hlt : sa - ga < 0
      · go_wp2_with fail
        go_ret
        exact hfin0.out _ (hB.out.setCell (by exact Nat.le_add_right _ 2) _) (by unfold geR; exact decide_eq_false (by simp only []; omega))
      · go_wp2_with fail
        go_roundw
        case rel => exact ⟨1, 1, by omega, rfl, rfl, Lib.hid ⟨by simp only []; omega, by omega, by omega, by omega⟩, Lib.hid (hB.out.setCell (by exact Nat.le_add_right _ 2) _), Lib.hid (hA.out.put (by omega)), Lib.hid (hF.out.set (.inl ⟨rfl, rfl, rfl, rfl, rfl⟩))⟩
        case measure => simp [intOf]
    · obtain rfl : z = 1 := by omega
      clear hz
      have j0 := hi1.out
      obtain ⟨⟨y0, y1, y2, y3, y4, y5⟩, f1, f2, f3, f4, f5⟩ := hF.out
      simp only [subK] at y1 y2 y3 y4 y5
      by_cases hlt : sb - gb < 0
      · go_wp2_with fail
        go_ret
        exact hfin0.out _ (hB.out.setCell (by exact Nat.le_add_right _ 2) _) (by unfold geR; exact decide_eq_false (by simp only []; omega))
      · go_wp2_with fail
        go_roundw
        case rel => exact ⟨2, 2, by omega, rfl, rfl, Lib.hid ⟨fun _ => hG.out.1 (by omega), by simp only []; omega, by omega, by omega⟩, Lib.hid (hB.out.setCell (by exact Nat.le_add_right _ 2) _), Lib.hid (hA.out.put (by omega)), Lib.hid (hF.out.set (.inr (.inl ⟨rfl, rfl, rfl, rfl, rfl⟩)))⟩
        case measure => simp [intOf]
    · obtain rfl : z = 2 := by omega
      clear hz
      have j0 := hi2.out
      obtain ⟨⟨y0, y1, y2, y3, y4, y5⟩, f1, f2, f3, f4, f5⟩ := hF.out
      simp only [subK] at y1 y2 y3 y4 y5
      by_cases hlt : sc - gc < 0
      · go_wp2_with fail
        go_ret
        exact hfin0.out _ (hB.out.setCell (by exact Nat.le_add_right _ 2) _) (by unfold geR; exact decide_eq_false (by simp only []; omega))
      · go_wp2_with fail
        go_roundw
        case rel => exact ⟨3, 3, by omega, rfl, rfl, Lib.hid ⟨fun _ => hG.out.1 (by omega), fun _ => hG.out.2.1 (by omega), by simp only []; omega, by omega⟩, Lib.hid (hB.out.setCell (by exact Nat.le_add_right _ 2) _), Lib.hid (hA.out.put (by omega)), Lib.hid (hF.out.set (.inr (.inr (.inl ⟨rfl, rfl, rfl, rfl, rfl⟩))))⟩
        case measure => simp [intOf]
    · obtain rfl : z = 3 := by omega
      clear hz
      have j0 := hi3.out
      obtain ⟨⟨y0, y1, y2, y3, y4, y5⟩, f1, f2, f3, f4, f5⟩ := hF.out
      simp only [subK] at y1 y2 y3 y4 y5
      by_cases hlt : sd - gd < 0
      · go_wp2_with fail
        go_ret
        exact hfin0.out _ (hB.out.setCell (by exact Nat.le_add_right _ 2) _) (by unfold geR; exact decide_eq_false (by simp only []; omega))
      · go_wp2_with fail
        go_roundw
        case rel => exact ⟨4, 4, by omega, rfl, rfl, Lib.hid ⟨fun _ => hG.out.1 (by omega), fun _ => hG.out.2.1 (by omega), fun _ => hG.out.2.2.1 (by omega), by simp only []; omega⟩, Lib.hid (hB.out.setCell (by exact Nat.le_add_right _ 2) _), Lib.hid (hA.out.put (by omega)), Lib.hid (hF.out.set (.inr (.inr (.inr ⟨rfl, rfl, rfl, rfl, rfl⟩))))⟩
        case measure => simp [intOf]
    · obtain rfl : z = 4 := by omega
      clear hz
      have hge : geR ⟨sa, sb, sc, sd, st⟩ ⟨ga, gb, gc, gd, gt⟩ = true := decide_eq_true ⟨hG.out.1 (by omega), hG.out.2.1 (by omega), hG.out.2.2.1 (by omega), hG.out.2.2.2 (by omega)⟩
      have hfin1 := Lib.hid (hfin1.out hge)
      have hfin2 := Lib.hid (hfin2.out hge)
      clear hge hG hi0 hi1 hi2 hi3 w0 w1 w2 w3 hfin0
      have hMr := hM.out _ hB.out
      have hLk : Hid (∀ X : World, Below wr.heap.size wr X → (Instr.lookup 86 (.map (some b2)) (.int .i64 gt) true).run Tryd.prog X = .ok (.tuple #[(rmV m.r gt).getD (.agg #[.int .i64 0, .int .i64 0, .int .i64 0, .int .i64 0, .int .i64 0]), .bool (rmV m.r gt).isSome]) X) := Lib.hid fun X hX =>
        look_run (hMr.below hX).2.2.2.2.2 _ _ _ Tryd.underlying86 (zeroRw _) _ (by omega)
      obtain ⟨c0, c1, c2, hbne, _, hMp⟩ := hMr
      have hMp' := Lib.hid hMp
      clear hMp c1
      obtain ⟨a0, a1, a2, a3, a4, a5⟩ := hA.out
      obtain ⟨⟨y0, y1, y2, y3, y4, y5⟩, f1, f2, f3, f4, f5⟩ := hF.out
      simp only [subK, subRw] at y1 y2 y3 y4 y5
      have hB' := Lib.hid hB.out
      clear f1 f2 f3 f4 f5 hF hA hB hM
      cases hq : m.r gt with
      | none =>
        have hv : rmV m.r gt = none := by unfold rmV; rw [hq]; rfl
        simp only [hv, Option.getD_none, Option.isSome_none] at hLk
        have l1 := hLk.out wr.drew ((Below.refl _ _).drew)
        have l2 := fun o => hLk.out (wr.alloc o).drew ((below_alc _ _).drew)
        have l3 := fun o => hLk.out (wr.drew.alloc o) (belA _ ((Below.refl _ _).drew))
        have hfin := Lib.hid (hfin1.out hq)
        clear hfin1 hfin2 hLk hv hq
        go_wp2_with fail
        go_region
        clear l1 l2 l3
        obtain ⟨X, hX⟩ : ∃ X, (wr.alloc (.cells #[.int .i64 0, .int .i64 0, .int .i64 0, .int .i64 0, .int .i64 0] 36)).drew.drew = X := ⟨_, rfl⟩
        have hbX : Below wr.heap.size wr X := by rw [← hX]; exact (below_alc _ _).drew.drew
        obtain ⟨w', hup, hMU, hBU⟩ := mput_run (hMp'.out.below hbX) 86 _ Tryd.underlying86 (by omega) gt (by omega) (.agg #[.int .i64 (sa - ga), .int .i64 (sb - gb), .int .i64 (sc - gc), .int .i64 (sd - gd), .int .i64 st])
        have hE := Lib.hid (hfin.out X w' (belT hB'.out hbX) hBU hMU)
        clear hMU hBU hbX
        rw [← hX] at hup
        clear hX hfin
        go_wp2_with fail
        go_region
        go_wp2_with fail
        go_ret
        exact hE.out
      | some q =>
        have hv : rmV m.r gt = some (.agg #[.int .i64 q.a, .int .i64 q.b, .int .i64 q.c, .int .i64 q.d, .int .i64 q.t]) := by unfold rmV; rw [hq]; rfl
        simp only [hv, Option.getD_some, Option.isSome_some] at hLk
        have l1 := hLk.out wr.drew ((Below.refl _ _).drew)
        have l2 := fun o => hLk.out (wr.alloc o).drew ((below_alc _ _).drew)
        have l3 := fun o => hLk.out (wr.drew.alloc o) (belA _ ((Below.refl _ _).drew))
        have hfin := Lib.hid (hfin2.out q hq)
        obtain ⟨q0, q1, q2, q3, q4⟩ := q
        simp only [] at l1 l2 l3 hfin
        clear hfin1 hfin2 hLk hv hq
        obtain ⟨x, hx⟩ : ∃ x, rwQ q0 q1 q2 q3 q4 (sa - ga) (sb - gb) (sc - gc) (sd - gd) st = x := ⟨_, rfl⟩
        go_wp2_with fail
        go_region
        clear l1 l2 l3
        go_wp2_with fail
        go_ret
        exact hfin.out x hx _ (by have := hB'.out; (repeat' (first | with_reducible exact Below.refl _ _ | with_reducible assumption | with_reducible apply Below.setCell | with_reducible apply Below.alloc | with_reducible apply Below.drew | with_reducible apply below_drewN | with_reducible exact Nat.le_refl _ | (simp; done) | (simp; omega) | omega | exact Nat.le_refl _)))
end Go.Proofs.YtfkdcconmecaoaaDoor

/- (*matcher).match. -/
namespace Go.Proofs.YtfkdcconmecaoaaDoor
open Go.RowKit Go.Maps
set_option linter.unusedVariables false
set_option linter.unusedSimpArgs false

def MsOk (m : MS) : Prop := ∀ v T, m.s v = some T → T.ok = true
theorem mtR_s {g s : Rw} {m m' : MS} (h : mtR g s m = some m') : m'.s = m.s := by
  unfold mtR at h
  split at h
  · split at h
    · cases h; rfl
    · cases h
  · split at h
    · split at h
      · cases h; rfl
      · split at h
        · cases h; rfl
        · cases h
    · cases h
theorem mtT_ok : ∀ (G S : TT) (m m' : MS), S.ok = true → MsOk m → mtT G S m = some m' → MsOk m'
  | .var v, S, m, m', hS, hm, h => by
    unfold mtT at h
    split at h
    · cases h
      intro u T hT
      simp only [upd] at hT
      by_cases e : u = v
      · rw [if_pos e] at hT; cases hT; exact hS
      · rw [if_neg e] at hT; exact hm u T hT
    · split at h
      · cases h; exact hm
      · cases h
  | .base k, S, m, m', hS, hm, h => by
    unfold mtT at h
    split at h
    · cases h; exact hm
    · cases h
  | .fn a r b, .base _, m, m', hS, hm, h => by cases h
  | .fn a r b, .var _, m, m', hS, hm, h => by cases h
  | .fn a r b, .fn a' r' b', m, m', hS, hm, h => by
    unfold TT.ok at hS
    simp only [Bool.and_eq_true] at hS
    have h : ((mtT a a' m).bind (mtR r r')).bind (mtT b b') = some m' := h
    cases h1 : mtT a a' m with
    | none => rw [h1] at h; cases h
    | some m1 =>
      rw [h1, Option.bind_some] at h
      have k1 := mtT_ok a a' m m1 hS.1.1 hm h1
      cases h2 : mtR r r' m1 with
      | none => rw [h2] at h; cases h
      | some m2 =>
        rw [h2, Option.bind_some] at h
        have k2 : MsOk m2 := by intro u T hT; rw [mtR_s h2] at hT; exact k1 u T hT
        exact mtT_ok b b' m2 m' hS.2 k2 h
theorem zeroSh (w : World) : (zeroValue 65).run Tryd.prog w = .ok (.pointer none) w := by kernel_rfl
theorem bar_drewN {S : Nat → Prop} {w w' : World} (h : Bar S w w') (n : Nat) : Bar S w (w'.drewN n) := h.next (below_drewN (Below.refl _ _) n)
set_option maxRecDepth 100000 in
set_option maxHeartbeats 8000000 in
theorem mtMatch_var (v : Int) (S : TT) (gg gs gm b1 b2 n : Nat) (m : MS) (w : World) (h : Hid (MtAt w gm b1 b2 n m)) (hG : Hid (Shp w (.var v) gg)) (hS : Hid (Shp w S gs)) (hoG : (TT.var v).ok = true) (hoS : S.ok = true) (hm : MsOk m) (hn : n + 1 ≤ 1000000) :
    Calls Tryd.prog 42 #[.pointer (some ⟨gm, 0, none⟩), ptrS gg, ptrS gs] w (MrPost gm b1 b2 (n + 1) (mtT (.var v) S m) w) := by
  have hv : 0 ≤ v ∧ v < 4096 := by simpa [TT.ok] using hoG
  have cG := shC_of (show w.heap[gg]? = _ from hG.out)
  have a0 := cG.c0; have a1 := cG.c1
  have hgl := hG.out.lt
  obtain ⟨p0, p1, p2, p3, ⟨ft, p4, p5⟩, p6⟩ := h.out
  have hLk : Hid (∀ k, (Instr.lookup 85 (.map (some b1)) (.int .i64 v) true).run Tryd.prog (w.drewN k) = .ok (.tuple #[(ftV ft v).getD (.pointer none), .bool (ftV ft v).isSome]) (w.drewN k)) := Lib.hid fun k =>
    look_run (p4.below (below_drewN (Below.refl _ _) k)) _ _ _ Tryd.underlying85 (zeroSh _) _ (by omega)
  have p5v := p5 v
  clear cG hG
  cases hs : m.s v with
  | none =>
    have hft : ft v = none := by
      rw [hs] at p5v
      cases hf : ft v with
      | none => rfl
      | some g => rw [hf] at p5v; exact p5v.elim
    have hfv : ftV ft v = none := by unfold ftV; rw [hft]; rfl
    simp only [hfv, Option.getD_none, Option.isSome_none] at hLk
    have l1 := hLk.out
    have hup := fun (X : World) (hX : Below w.heap.size w X) => mput_run (p4.below hX) 85 _ Tryd.underlying85 (by omega) v (by omega) (ptrS gs)
    have hfin : Hid (∀ X W', Below w.heap.size w X → MapOf W' b1 (n + 1) (upd (ftV ft) v (ptrS gs)) → Bar (fun k => k = b1) X W' → MrPost gm b1 b2 (n + 1) (mtT (.var v) S m) w (.returned (.bool true)) W') := Lib.hid fun X W' hX hM hB => by
      have e : mtT (.var v) S m = some ⟨upd m.s v S, m.r⟩ := by unfold mtT; rw [hs]
      rw [e]
      refine ⟨rfl, (Bar.of_below (S := fun k => k = b1 ∨ k = b2) hX).trans hB fun k _ hk => .inl hk, fun m' h' => ?_⟩
      cases h'
      have hb2 : Bar (fun k => k = b1 ∨ k = b2) X W' := hB.mono fun k hk => .inl hk
      have hX' := h.out.below hX
      have hsh := fun u fu (hs : ShO X (m.s u) fu) => ShO.maps hX' hb2 hs
      have hT' := hX'.shp hb2 (hS.out.keep hX)
      have q4 := p4.below hX
      have q6 := p6.below hX
      refine ⟨by have := hX.size; have := hB.size; omega, hB.cell (carry hX p0 p1) (q4.ne (carry hX p0 p1)), hB.cell (carry hX p0 p2) (q4.ne (carry hX p0 p2)), p3, ⟨upd ft v gs, ?_, ?_⟩, (q6.bar hB (fun e => p3 e.symm)).mono (by omega)⟩
      · have e : ftV (upd ft v gs) = upd (ftV ft) v (ptrS gs) := by
          funext u; unfold ftV upd; split <;> rfl
        rw [e]; exact hM
      · intro u
        show ShO W' (upd m.s v S u) (upd ft v gs u)
        unfold upd
        by_cases hu : u = v
        · rw [if_pos hu, if_pos hu]; exact hT'
        · rw [if_neg hu, if_neg hu]; exact hsh u _ ((p5 u).below hX)
    generalize mtT (.var v) S m = R at hfin ⊢
    clear hLk hfv hft p5v p5 p6 h hS hs hm p3
    have p4' := Lib.hid p4
    clear p4
    unfold ptrS at *
    go_enter Tryd.func42, Tryd.ntmps42
    go_wp2_with fail
    go_quiet (fail)
    obtain ⟨X, hX⟩ : ∃ X, (w.drewN nq).drew = X := ⟨_, rfl⟩
    have hbX : Below w.heap.size w X := by rw [← hX]; exact (below_drewN (Below.refl _ _) nq).drew
    obtain ⟨w', hu, hMU, hBU⟩ := hup X hbX
    have hE := Lib.hid (hfin.out X w' hbX hMU hBU)
    clear hMU hBU hbX hup hfin
    rw [← hX] at hu
    clear hX
    simp only [World.drew_drewN] at hu
    go_wp2_with fail
    go_region
    go_wp2_with fail
    go_ret
    exact hE.out
  | some q =>
    obtain ⟨g, hft⟩ : ∃ g, ft v = some g := by
      rw [hs] at p5v
      cases hf : ft v with
      | none => rw [hf] at p5v; exact p5v.elim
      | some g => exact ⟨g, rfl⟩
    have hsq : Shp w q g := by rw [hs, hft] at p5v; exact p5v
    have hfv : ftV ft v = some (ptrS g) := by unfold ftV; rw [hft]; rfl
    simp only [hfv, Option.getD_some, Option.isSome_some] at hLk
    have l1 := hLk.out
    have kS := Lib.hid fun (k : Nat) => shSame_any q S g gs (w.drewN k) (Lib.hid (hsq.keep (below_drewN (Below.refl _ _) k))) (Lib.hid (hS.out.keep (below_drewN (Below.refl _ _) k))) (hm v q hs) hoS
    have hfin : Hid (∀ W x, decide (q = S) = x → Below w.heap.size w W → MrPost gm b1 b2 (n + 1) (mtT (.var v) S m) w (.returned (.bool x)) W) := Lib.hid fun W x hx hW => by
      have e : mtT (.var v) S m = if q = S then some m else none := by unfold mtT; rw [hs]
      rw [e]
      cases x
      · rw [if_neg (of_decide_eq_false hx)]; exact ⟨rfl, Bar.of_below hW, fun m' h' => by cases h'⟩
      · rw [if_pos (of_decide_eq_true hx)]; exact ⟨rfl, Bar.of_below hW, fun m' h' => by cases h'; exact (h.out.below hW).mono (by omega)⟩
    generalize mtT (.var v) S m = R at hfin ⊢
    obtain ⟨x, hx⟩ : ∃ x, decide (q = S) = x := ⟨_, rfl⟩
    rw [hx] at kS
    have hfin := Lib.hid fun W => hfin.out W x hx
    clear hLk hfv hft p5v p5 p6 h hS hs hm p3 p4 hx
    unfold ptrS at *
    go_enter Tryd.func42, Tryd.ntmps42
    go_wp2_with fail
    go_quiet (fail)
    go_wp2_with fail
    refine (kS.out _).mono ?_
    rintro e w1 ⟨rfl, n2, rfl⟩
    go_wp2_with fail
    go_ret
    exact hfin.out _ (below_drewN (Below.refl _ _) _)

set_option maxRecDepth 100000 in
set_option maxHeartbeats 8000000 in
theorem mtMatch_leaf (G S : TT) (gg gs gm b1 b2 n : Nat) (m : MS) (w : World) (h : Hid (MtAt w gm b1 b2 n m)) (hG : Hid (Shp w G gg)) (hS : Hid (Shp w S gs)) (hoG : G.ok = true) (hoS : S.ok = true) (hnv : kdS G ≠ 2) (hk : kdS G = 3 → kdS S ≠ 3) (N : Nat) (hN : n ≤ N) :
    Calls Tryd.prog 42 #[.pointer (some ⟨gm, 0, none⟩), ptrS gg, ptrS gs] w (MrPost gm b1 b2 N (mtT G S m) w) := by
  obtain ⟨pa, pb, hbA⟩ := hG.out.blk
  obtain ⟨qa, qb, hbB⟩ := hS.out.blk
  have a0 := (shC_of hbA).c0
  have b0 := (shC_of hbB).c0
  have hla := hG.out.lt
  have hlb := hS.out.lt
  have hM := Lib.hid fun W (hW : Below w.heap.size w W) => (h.out.below hW).mono hN
  have hno : Hid ((kdS G == kdS S) = false → mtT G S m = none) := Lib.hid fun e => by
    cases G with
    | var v => exact absurd rfl hnv
    | base k =>
      show (if S = .base k then some m else none) = none
      rw [if_neg]; rintro rfl; simp at e
    | fn a r b =>
      cases S with
      | fn _ _ _ => exact absurd rfl (hk rfl)
      | var _ => rfl
      | base _ => rfl
  have hyes : Hid ((kdS G == kdS S) = true → mtT G S m = some m ∧ (kdS G == 3) = false) := Lib.hid fun e => by
    cases G with
    | var v => exact absurd rfl hnv
    | base k =>
      have e : k = kdS S := eq_of_beq e
      have hk2 : k = 0 ∨ k = 1 := by simpa [TT.ok] using hoG
      have hS' : S = .base k := by
        cases S with
        | base k' => rw [show k = k' from e]
        | var _ => have e : k = 2 := e; omega
        | fn _ _ _ => have e : k = 3 := e; omega
      refine ⟨?_, ?_⟩
      · show (if S = .base k then some m else none) = some m
        rw [if_pos hS']
      · show (k == 3) = false
        simp; omega
    | fn a r b =>
      have e : (3 : Int) = kdS S := eq_of_beq e
      have e : kdS S = 3 := e.symm
      exact absurd e (hk rfl)
  have hnv' : (kdS G == 2) = false := by simpa using hnv
  have e1 : (kdS G != kdS S) = !(kdS G == kdS S) := rfl
  have e3 : (kdS G != 3) = !(kdS G == 3) := rfl
  clear h hG hS hoG hoS hk hbA hbB hnv
  generalize mtT G S m = R at hno hyes ⊢
  generalize kdS G = kg at a0 hno hyes hnv' e1 e3
  generalize kdS S = ks at b0 hno hyes e1
  unfold ptrS
  cases hq : (kg == ks)
  · obtain rfl := hno.out hq
    have hfin := Lib.hid fun (W : World) (hW : Below w.heap.size w W) => (show MrPost gm b1 b2 N none w (.returned (.bool false)) W from ⟨rfl, Bar.of_below hW, fun m' h' => by cases h'⟩)
    rw [hq] at e1
    have e1 : (kg != ks) = true := e1
    go_enter Tryd.func42, Tryd.ntmps42
    go_wp2_with fail
    go_quiet (fail)
    go_wp2_with fail
    go_ret
    exact hfin.out _ (below_drewN (Below.refl _ _) _)
  · obtain ⟨rfl, h3⟩ := hyes.out hq
    have hfin := Lib.hid fun (W : World) (hW : Below w.heap.size w W) => (show MrPost gm b1 b2 N (some m) w (.returned (.bool true)) W from ⟨rfl, Bar.of_below hW, fun m' h' => by cases h'; exact hM.out W hW⟩)
    rw [hq] at e1
    have e1 : (kg != ks) = false := e1
    rw [h3] at e3
    have e3 : (kg != 3) = true := e3
    go_enter Tryd.func42, Tryd.ntmps42
    go_wp2_with fail
    go_quiet (fail)
    go_wp2_with fail
    go_quiet (fail)
    go_wp2_with fail
    go_ret
    exact hfin.out _ (below_drewN (below_drewN (Below.refl _ _) _) _)
end Go.Proofs.YtfkdcconmecaoaaDoor
