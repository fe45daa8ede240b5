/- shape.Same. -/
import Derived.Test.YtfkdcconmecaoaaDoorShE
import Derived.Test.YtfkdcconmecaoaaDoorMtP
namespace Go.Proofs.YtfkdcconmecaoaaDoor
open Go.RowKit
set_option linter.unusedVariables false
set_option linter.unusedSimpArgs false

set_option maxRecDepth 10000 in
theorem eq_shp {w : World} {T U : TT} {a b : Nat} (ha : Shp w T a) (hb : Shp w U b) :
    (binOp .eql 65 (.pointer (some ⟨a, 0, none⟩)) (.pointer (some ⟨b, 0, none⟩))).run Tryd.prog w = .ok (.bool (decide (a = b))) w := by
  obtain ⟨i0, hi, _, hz, _⟩ := info_parts (show (Tryd.prog.info? 116).map (fun i => (i.zero, i.size, i.bytes)) = some (some (.agg #[.int .i64 0, .int .i64 0, .pointer none, .pointer none, .int .i64 0, .int .i64 0, .int .i64 0, .int .i64 0, .int .i64 0, .int .i64 0, .bool false]), 11, 88) by kernel_rfl)
  by_cases h : a = b
  · subst h
    have h : ∀ d : Nat, (Op.equalIn (d + 1) 65 (.pointer (some ⟨a, 0, none⟩)) (.pointer (some ⟨a, 0, none⟩))).run Tryd.prog w = .ok true w := fun d => by
      simp [Op.equalIn, run_underlying Tryd.underlying65, sizeOf, typeInfo, hi, run_sameAddr_same]
    simp only [binOp]
    simp [Op.equal, Op.maxDepth, h 9999]
  · obtain ⟨_, _, h1⟩ := ha.blk
    obtain ⟨_, _, h2⟩ := hb.blk
    unfold shB at h1 h2
    have hne' : (⟨a, 0, none⟩ : Addr) ≠ ⟨b, 0, none⟩ := by intro e; injection e; contradiction
    have h' : ∀ d : Nat, (Op.equalIn (d + 1) 65 (.pointer (some ⟨a, 0, none⟩)) (.pointer (some ⟨b, 0, none⟩))).run Tryd.prog w = .ok false w := fun d => by
      simp [Op.equalIn, run_underlying Tryd.underlying65, sizeOf, typeInfo, hi, hz, run_sameAddr_other w hne' h1 h2]
    simp only [binOp]
    simp [Op.equal, Op.maxDepth, h' 9999, h]
/-- what is looked at ahead of the children. -/
def sm4 (A B : TT) : Bool := kdS A == kdS B && (((A.sz : Int) == B.sz) && (vrS A == vrS B && rwQ (rwS A).a (rwS A).b (rwS A).c (rwS A).d (rwS A).t (rwS B).a (rwS B).b (rwS B).c (rwS B).d (rwS B).t))
theorem rwQ_iff (r s : Rw) : rwQ r.a r.b r.c r.d r.t s.a s.b s.c s.d s.t = decide (r = s) := by
  obtain ⟨_, _, _, _, _⟩ := r
  obtain ⟨_, _, _, _, _⟩ := s
  unfold rwQ
  rw [Bool.eq_iff_iff]
  simp [Rw.mk.injEq, and_assoc]
theorem sm4_ne {A B : TT} (h : sm4 A B = false) : decide (A = B) = false := by
  rw [decide_eq_false_iff_not]
  rintro rfl
  unfold sm4 at h
  rw [rwQ_iff] at h
  simp at h
theorem sm4_eq {A B : TT} (h : sm4 A B = true) (hA : kdS A ≠ 3) (hoA : A.ok = true) (hoB : B.ok = true) : A = B := by
  unfold sm4 at h
  rw [rwQ_iff] at h
  simp only [Bool.and_eq_true, beq_iff_eq, decide_eq_true_eq] at h
  obtain ⟨h1, h2, h3, h4⟩ := h
  cases A with
  | base k =>
    cases B with
    | base k' => have e : k = k' := h1; rw [e]
    | var v =>
      have e : k = 2 := h1
      subst e; simp [TT.ok] at hoA
    | fn a r b => exact absurd h1 hA
  | var v =>
    cases B with
    | base k' =>
      have e : 2 = k' := h1
      subst e; simp [TT.ok] at hoB
    | var v' => have e : v = v' := h3; rw [e]
    | fn a r b => exact absurd h1 hA
  | fn a r b => exact absurd rfl hA

set_option maxRecDepth 100000 in
set_option maxHeartbeats 8000000 in
theorem shSame_leaf (A B : TT) (ga gb : Nat) (w : World) (hA : Hid (Shp w A ga)) (hB : Hid (Shp w B gb)) (hoA : A.ok = true) (hoB : B.ok = true) (hk : ¬ (kdS A = 3 ∧ kdS B = 3)) :
    Calls Tryd.prog 72 #[ptrS ga, ptrS gb] w fun e w' => e = .returned (.bool (decide (A = B))) ∧ ∃ n, w' = w.drewN n := by
  unfold ptrS
  obtain ⟨pa, pb, hbA⟩ := hA.out.blk
  obtain ⟨qa, qb, hbB⟩ := hB.out.blk
  have cA := shC_of hbA
  have cB := shC_of hbB
  obtain ⟨x0, hx0⟩ : ∃ x, decide (ga = gb) = x := ⟨_, rfl⟩
  have hq : (binOp .eql 65 (.pointer (some ⟨ga, 0, none⟩)) (.pointer (some ⟨gb, 0, none⟩))).run Tryd.prog w = .ok (.bool x0) w := by rw [← hx0]; exact eq_shp hA.out hB.out
  have hone : Hid (x0 = true → A = B) := Lib.hid fun e => by
    have e' : ga = gb := by rw [e] at hx0; exact of_decide_eq_true hx0
    subst e'; exact Shp.one hA.out hB.out
  have hne := Lib.hid fun (e : sm4 A B = false) => sm4_ne e
  have heq := Lib.hid fun (e : sm4 A B = true) (e2 : kdS A ≠ 3) => sm4_eq e e2 hoA hoB
  have hkk := Lib.hid hk
  have hla := hA.out.lt
  have hlb := hB.out.lt
  have a0 := cA.c0; have a1 := cA.c1; have a9 := cA.c9; have a4 := cA.c4; have a5 := cA.c5; have a6 := cA.c6; have a7 := cA.c7; have a8 := cA.c8
  have b0 := cB.c0; have b1 := cB.c1; have b9 := cB.c9; have b4 := cB.c4; have b5 := cB.c5; have b6 := cB.c6; have b7 := cB.c7; have b8 := cB.c8
  have hs4 : Hid (∀ z, sm4 A B = z → (kdS A == kdS B && (((A.sz : Int) == B.sz) && (vrS A == vrS B && rwQ (rwS A).a (rwS A).b (rwS A).c (rwS A).d (rwS A).t (rwS B).a (rwS B).b (rwS B).c (rwS B).d (rwS B).t))) = z) := Lib.hid fun z e => e
  clear cA cB hbA hbB hx0 hk hoA hoB hA hB
  unfold sm4 at hne heq
  clear hs4
  obtain ⟨D, hD⟩ : ∃ D, decide (A = B) = D := ⟨_, rfl⟩
  rw [hD]
  rw [hD] at hne
  have hone : Hid (x0 = true → D = true) := Lib.hid fun e => by rw [← hD]; exact decide_eq_true (hone.out e)
  have heq : Hid (_ → _ → D = true) := Lib.hid fun e e2 => by rw [← hD]; exact decide_eq_true (heq.out e e2)
  clear hD
  generalize kdS A = ka at a0 hne heq hkk
  generalize kdS B = kb at b0 hne heq hkk
  generalize (A.sz : Int) = sa at a9 hne heq
  generalize (B.sz : Int) = sb at b9 hne heq
  generalize vrS A = va at a1 hne heq
  generalize vrS B = vb at b1 hne heq
  generalize rwS A = ra at a4 a5 a6 a7 a8 hne heq
  generalize rwS B = rb at b4 b5 b6 b7 b8 hne heq
  obtain ⟨ra0, ra1, ra2, ra3, ra4⟩ := ra
  obtain ⟨rb0, rb1, rb2, rb3, rb4⟩ := rb
  simp only [] at a4 a5 a6 a7 a8 b4 b5 b6 b7 b8 hne heq
  have hin := fun (x0 x1 x2 x3 x4 y0 y1 y2 y3 y4 : Int) (W : World) => row_in 9997 x0 x1 x2 x3 x4 y0 y1 y2 y3 y4 W
  simp only [Nat.reduceAdd] at hin
  cases x0
  · have e1 : (ka != kb) = !(ka == kb) := rfl
    have e2 : (sa != sb) = !(sa == sb) := rfl
    have e3 : (va != vb) = !(va == vb) := rfl
    have e5 : (ka != 3) = !(ka == 3) := rfl
    cases h1 : (ka == kb)
    · have hf := Lib.hid (hne.out (by rw [h1]; rfl))
      rw [h1] at e1
      have e1 : (ka != kb) = true := e1
      go_enter Tryd.func72, Tryd.ntmps72
      go_wp2_with fail
      go_quiet (fail)
      go_wp2_with fail
      go_ret
      exact ⟨by rw [hf.out]; rfl, _, rfl⟩
    rw [h1] at e1
    have e1 : (ka != kb) = false := e1
    cases h2 : (sa == sb)
    · have hf := Lib.hid (hne.out (by rw [h1, h2]; rfl))
      rw [h2] at e2
      have e2 : (sa != sb) = true := e2
      go_enter Tryd.func72, Tryd.ntmps72
      go_wp2_with fail
      go_quiet (fail)
      go_wp2_with fail
      go_ret
      exact ⟨by rw [hf.out]; rfl, _, rfl⟩
    rw [h2] at e2
    have e2 : (sa != sb) = false := e2
    cases h3 : (va == vb)
    · have hf := Lib.hid (hne.out (by rw [h1, h2, h3]; rfl))
      rw [h3] at e3
      have e3 : (va != vb) = true := e3
      go_enter Tryd.func72, Tryd.ntmps72
      go_wp2_with fail
      go_quiet (fail)
      go_wp2_with fail
      go_ret
      exact ⟨by rw [hf.out]; rfl, _, rfl⟩
    rw [h3] at e3
    have e3 : (va != vb) = false := e3
    cases h4 : rwQ ra0 ra1 ra2 ra3 ra4 rb0 rb1 rb2 rb3 rb4
    · have hf := Lib.hid (hne.out (by rw [h1, h2, h3, h4]; rfl))
      go_enter Tryd.func72, Tryd.ntmps72
      go_wp2_with fail
      go_quiet (fail)
      go_wp2_with fail
      go_ret
      exact ⟨by rw [hf.out]; rfl, _, rfl⟩
    · have h5 : (ka == 3) = false := by
        cases hq3 : (ka == 3)
        · rfl
        · simp only [beq_iff_eq] at hq3 h1
          exact absurd ⟨hq3, h1 ▸ hq3⟩ hkk.out
      have hf := Lib.hid (heq.out (by rw [h1, h2, h3, h4]; rfl) (by intro e; rw [e] at h5; simp at h5))
      rw [h5] at e5
      have e5 : (ka != 3) = true := e5
      go_enter Tryd.func72, Tryd.ntmps72
      go_wp2_with fail
      go_quiet (fail)
      go_wp2_with fail
      go_quiet (fail)
      go_wp2_with fail
      go_ret
      exact ⟨by rw [hf.out]; rfl, _, World.drewN_drewN _ _ _⟩
  · have hf := Lib.hid (hone.out rfl)
    go_enter Tryd.func72, Tryd.ntmps72
    go_wp2_with fail
    go_ret
    exact ⟨by rw [hf.out]; rfl, 0, rfl⟩

set_option maxRecDepth 100000 in
set_option maxHeartbeats 8000000 in
theorem shSame_any : ∀ (A B : TT) (ga gb : Nat) (w : World), Hid (Shp w A ga) → Hid (Shp w B gb) → A.ok = true → B.ok = true →
    Calls Tryd.prog 72 #[ptrS ga, ptrS gb] w fun e w' => e = .returned (.bool (decide (A = B))) ∧ ∃ n, w' = w.drewN n := by
  intro A
  induction A with
  | base k => intro B ga gb w hA hB hoA hoB; exact shSame_leaf _ _ _ _ _ hA hB hoA hoB (by rintro ⟨h, _⟩; have h : k = 3 := h; subst h; simp [TT.ok] at hoA)
  | var v => intro B ga gb w hA hB hoA hoB; exact shSame_leaf _ _ _ _ _ hA hB hoA hoB (by rintro ⟨h, _⟩; have h : (2 : Int) = 3 := h; omega)
  | fn a r b iha ihb =>
    intro B ga gb w hA hB hoA hoB
    cases B with
    | base k => exact shSame_leaf _ _ _ _ _ hA hB hoA hoB (by rintro ⟨_, h⟩; have h : k = 3 := h; subst h; simp [TT.ok] at hoB)
    | var v => exact shSame_leaf _ _ _ _ _ hA hB hoA hoB (by rintro ⟨_, h⟩; have h : (2 : Int) = 3 := h; omega)
    | fn a' r' b' =>
      obtain ⟨pa, pb, hbA, hsa, hsb⟩ := hA.out
      obtain ⟨qa, qb, hbB, hta, htb⟩ := hB.out
      have cA := shC_of hbA
      have cB := shC_of hbB
      unfold TT.ok at hoA hoB
      simp only [Bool.and_eq_true] at hoA hoB
      obtain ⟨x0, hx0⟩ : ∃ x, decide (ga = gb) = x := ⟨_, rfl⟩
      have hq : (binOp .eql 65 (.pointer (some ⟨ga, 0, none⟩)) (.pointer (some ⟨gb, 0, none⟩))).run Tryd.prog w = .ok (.bool x0) w := by rw [← hx0]; exact eq_shp hA.out hB.out
      obtain ⟨D, hD⟩ : ∃ D, decide (TT.fn a r b = TT.fn a' r' b') = D := ⟨_, rfl⟩
      have hone : Hid (x0 = true → D = true) := Lib.hid fun e => by
        have e' : ga = gb := by rw [e] at hx0; exact of_decide_eq_true hx0
        subst e'; rw [← hD]; exact decide_eq_true (Shp.one hA.out hB.out)
      have hsz : Hid ((((a.sz + b.sz + 1 : Nat) : Int) == ((a'.sz + b'.sz + 1 : Nat) : Int)) = false → D = false) := Lib.hid fun e => by
        rw [← hD, decide_eq_false_iff_not]; intro h; injection h with h1 h2 h3; subst h1 h2 h3; simp at e
      have hrq : Hid (rwQ r.a r.b r.c r.d r.t r'.a r'.b r'.c r'.d r'.t = false → D = false) := Lib.hid fun e => by
        rw [← hD, decide_eq_false_iff_not]; intro h; injection h with h1 h2 h3; subst h1 h2 h3; rw [rwQ_iff] at e; simp at e
      have hrec : Hid (rwQ r.a r.b r.c r.d r.t r'.a r'.b r'.c r'.d r'.t = true → D = (decide (a = a') && decide (b = b'))) := Lib.hid fun e => by
        rw [rwQ_iff, decide_eq_true_eq] at e
        subst e
        rw [← hD, Bool.eq_iff_iff]
        simp
      have kA : Hid (∀ k n, Calls Tryd.prog 72 #[ptrS pa, ptrS qa] (w.drewN (k + n)) fun e w' => e = .returned (.bool (decide (a = a'))) ∧ ∃ m, w' = w.drewN (k + m)) := Lib.hid fun k n =>
        (iha a' pa qa (w.drewN (k + n)) (Lib.hid (hsa.keep (below_drewN (Below.refl _ _) (k + n)))) (Lib.hid (hta.keep (below_drewN (Below.refl _ _) (k + n)))) hoA.1.1 hoB.1.1).mono fun e w' ⟨h1, m, h2⟩ => ⟨h1, n + m, by rw [h2, World.drewN_drewN, Nat.add_assoc]⟩
      have kB : Hid (∀ k n, Calls Tryd.prog 72 #[ptrS pb, ptrS qb] (w.drewN (k + n)) fun e w' => e = .returned (.bool (decide (b = b'))) ∧ ∃ m, w' = w.drewN (k + m)) := Lib.hid fun k n =>
        (ihb b' pb qb (w.drewN (k + n)) (Lib.hid (hsb.keep (below_drewN (Below.refl _ _) (k + n)))) (Lib.hid (htb.keep (below_drewN (Below.refl _ _) (k + n)))) hoA.2 hoB.2).mono fun e w' ⟨h1, m, h2⟩ => ⟨h1, n + m, by rw [h2, World.drewN_drewN, Nat.add_assoc]⟩
      have hla := hA.out.lt
      have hlb := hB.out.lt
      have a0 := cA.c0; have a1 := cA.c1; have a2 := cA.c2; have a3 := cA.c3; have a9 := cA.c9; have a4 := cA.c4; have a5 := cA.c5; have a6 := cA.c6; have a7 := cA.c7; have a8 := cA.c8
      have b0 := cB.c0; have b1 := cB.c1; have b2 := cB.c2; have b3 := cB.c3; have b9 := cB.c9; have b4 := cB.c4; have b5 := cB.c5; have b6 := cB.c6; have b7 := cB.c7; have b8 := cB.c8
      clear cA cB hbA hbB hx0 hoA hoB hA hB iha ihb hsa hsb hta htb
      rw [hD]
      clear hD
      obtain ⟨ra0, ra1, ra2, ra3, ra4⟩ := r
      obtain ⟨rb0, rb1, rb2, rb3, rb4⟩ := r'
      simp only [] at a4 a5 a6 a7 a8 b4 b5 b6 b7 b8 hrq hrec
      generalize ((a.sz + b.sz + 1 : Nat) : Int) = sa at a9 hsz
      generalize ((a'.sz + b'.sz + 1 : Nat) : Int) = sb at b9 hsz
      generalize decide (a = a') = d1 at kA hrec
      generalize decide (b = b') = d2 at kB hrec
      unfold ptrS at *
      have hin := fun (x0 x1 x2 x3 x4 y0 y1 y2 y3 y4 : Int) (W : World) => row_in 9997 x0 x1 x2 x3 x4 y0 y1 y2 y3 y4 W
      simp only [Nat.reduceAdd] at hin
      have e2 : (sa != sb) = !(sa == sb) := rfl
      cases x0
      · cases h2 : (sa == sb)
        · have hf := Lib.hid (hsz.out h2)
          rw [h2] at e2
          have e2 : (sa != sb) = true := e2
          go_enter Tryd.func72, Tryd.ntmps72
          go_wp2_with fail
          go_quiet (fail)
          go_wp2_with fail
          go_ret
          exact ⟨by rw [hf.out]; rfl, _, rfl⟩
        rw [h2] at e2
        have e2 : (sa != sb) = false := e2
        cases h4 : rwQ ra0 ra1 ra2 ra3 ra4 rb0 rb1 rb2 rb3 rb4
        · have hf := Lib.hid (hrq.out h4)
          go_enter Tryd.func72, Tryd.ntmps72
          go_wp2_with fail
          go_quiet (fail)
          go_wp2_with fail
          go_ret
          exact ⟨by rw [hf.out]; rfl, _, rfl⟩
        · have hf := Lib.hid (hrec.out h4)
          cases d1
          · go_enter Tryd.func72, Tryd.ntmps72
            go_wp2_with fail
            go_quiet (fail)
            go_wp2_with fail
            go_quiet ((go_at_call 72; exact kA.out _ _))
            go_wp2_with fail
            go_ret
            exact ⟨by rw [hf.out]; rfl, _, World.drewN_drewN _ _ _⟩
          · go_enter Tryd.func72, Tryd.ntmps72
            go_wp2_with fail
            go_quiet (fail)
            go_wp2_with fail
            go_quiet ((go_at_call 72; first | with_reducible exact kA.out _ _ | with_reducible exact kB.out _ _))
            go_wp2_with fail
            go_ret
            exact ⟨by rw [hf.out]; rfl, _, World.drewN_drewN _ _ _⟩
      · have hf := Lib.hid (hone.out rfl)
        go_enter Tryd.func72, Tryd.ntmps72
        go_wp2_with fail
        go_ret
        exact ⟨by rw [hf.out]; rfl, 0, rfl⟩
end Go.Proofs.YtfkdcconmecaoaaDoor
