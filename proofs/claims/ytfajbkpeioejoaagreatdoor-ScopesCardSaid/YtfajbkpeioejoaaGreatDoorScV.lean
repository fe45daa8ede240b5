/- scope.Resolve, walked. -/
import Derived.Test.YtfajbkpeioejoaaGreatDoorScW
import Derived.Test.YtfajbkpeioejoaaGreatDoorScU
import Derived.Test.YtfajbkpeioejoaaGreatDoorScAs
namespace Go.Proofs.YtfajbkpeioejoaaGreatDoor
open Go.RowKit
set_option linter.unusedVariables false
set_option linter.unusedSimpArgs false

/-- the program's box, and the result's. -/
def RvW (w : World) (a : Option Addr) (n c : Nat) (a2 : Option Addr) (n2 c2 : Nat) (W : World) : Prop :=
  w.heap.size + 1 < W.heap.size ∧ W.cell? ⟨w.heap.size, 0, none⟩ = some (.slice a n c) ∧ W.cell? ⟨w.heap.size, 1, none⟩ = some (.slice a2 n2 c2) ∧ W.cell? ⟨w.heap.size + 1, 0, none⟩ = some (.slice none 0 0) ∧ W.cell? ⟨w.heap.size + 1, 1, none⟩ = some (.slice none 0 0) ∧ (∀ o, W.frozen? ⟨w.heap.size + 1, o, none⟩ = false) ∧ Below w.heap.size w W
theorem RvW.bar {S : Nat → Prop} {w W W' : World} {a a2 : Option Addr} {n c n2 c2 : Nat} (h : RvW w a n c a2 n2 c2 W) (hb : Bar S W W') (h1 : ¬ S w.heap.size) (h2 : ¬ S (w.heap.size + 1)) (h3 : ∀ k, S k → w.heap.size ≤ k) : RvW w a n c a2 n2 c2 W' := by
  obtain ⟨e0, e1, e2, e3, e4, e5, e6⟩ := h
  exact ⟨by have := hb.size; omega, hb.cell e1 h1, hb.cell e2 h1, hb.cell e3 h2, hb.cell e4 h2, fun o => by rw [hb.frozen (a := ⟨w.heap.size + 1, o, none⟩) e0 h2]; exact e5 o, ⟨hb.os.trans e6.os, hb.tape.trans e6.tape, hb.output.trans e6.output, by have := hb.size; omega, fun k hk => (hb.block k (by omega) (fun hs => by have := h3 k hs; omega)).trans (e6.block k hk)⟩⟩
theorem RvW.below {w W W' : World} {a a2 : Option Addr} {n c n2 c2 : Nat} (h : RvW w a n c a2 n2 c2 W) (hb : Below W.heap.size W W') : RvW w a n c a2 n2 c2 W' := h.bar (Bar.of_below (S := fun _ => False) hb) id id (fun _ h => h.elim)
theorem rvW_mk (w : World) (a : Option Addr) (n c : Nat) (a2 : Option Addr) (n2 c2 : Nat) : RvW w a n c a2 n2 c2 ((w.alloc (.cells #[.slice a n c, .slice a2 n2 c2] 25)).alloc (.cells #[.slice none 0 0, .slice none 0 0] 25)) := by
  have h0 : (w.alloc (.cells #[.slice a n c, .slice a2 n2 c2] 25)).heap.size = w.heap.size + 1 := by simp
  have hb := below_alc (w.alloc (.cells #[.slice a n c, .slice a2 n2 c2] 25)) (.cells #[.slice none 0 0, .slice none 0 0] 25)
  refine ⟨by simp, carry hb (by omega) ?_, carry hb (by omega) ?_, ?_, ?_, fun o => by simp [go_sem], belA _ (below_alc _ _)⟩
  · rw [World.cell?_alloc_at _ _ _ _ rfl]; rfl
  · rw [World.cell?_alloc_at _ _ _ _ rfl]; rfl
  · rw [World.cell?_alloc_at _ _ _ _ (by simp)]; rfl
  · rw [World.cell?_alloc_at _ _ _ _ (by simp)]; rfl
theorem two_set {W : World} {r : Nat} {u0 u1 : Value} (h0 : W.cell? ⟨r, 0, none⟩ = some u0) (h1 : W.cell? ⟨r, 1, none⟩ = some u1) (x y : Value) : ((W.setCell ⟨r, 0, none⟩ x).setCell ⟨r, 1, none⟩ y).cell? ⟨r, 0, none⟩ = some x ∧ ((W.setCell ⟨r, 0, none⟩ x).setCell ⟨r, 1, none⟩ y).cell? ⟨r, 1, none⟩ = some y ∧ Bar (fun k => k = r) W ((W.setCell ⟨r, 0, none⟩ x).setCell ⟨r, 1, none⟩ y) :=
  ⟨setO (setS h0) (by simp), setS (setO h1 (by simp)), (Bar.set (S := fun k => k = r) ⟨r, 0, none⟩ x rfl).trans (Bar.set (S := fun k => k = r) ⟨r, 1, none⟩ y rfl) fun _ _ h => h⟩
theorem errTy.below {w w' : World} (h : errTy w) (hb : Below w.heap.size w w') : errTy w' := carry hb (hgl h) h
theorem errTy.bar {S : Nat → Prop} {w w' : World} (h : errTy w) (hb : Bar S w w') (hn : ¬ S 0) : errTy w' := hb.cell h hn
/-- an answer without a program. -/
theorem res_err {os : List Or} {r : Except (Int × Int) (List Nd)} {c p : Int} (hr : r = .error (c, p)) {w w' : World} (hb : Below w.heap.size w w') : ResPost os r w (.returned (.tuple #[.agg #[.slice none 0 0, .slice none 0 0], .int .i64 p, .int .i64 c])) w' := by
  subst hr
  exact ⟨_, _, _, _, _, _, _, _, rfl, hb, rfl, rfl, rfl, rfl, rfl, rfl, rfl, rfl⟩
set_option maxRecDepth 100000 in
set_option maxHeartbeats 8000000 in
theorem Resolve_any (a a2 : Option Addr) (n c n2 c2 : Nat) (os : List Or) (ts : List Nd) (w : World) (h : Hid (OArg w a n os)) (hsz : Hid (∀ t ∈ os, OrSz t)) (hl : n ≤ 140737488351232) (h2 : Hid (NArg w a2 n2 ts)) (hsz2 : Hid (∀ t ∈ ts, NdSz t)) (hl2 : n2 ≤ 140737488351232) (hg : Hid (errTy w)) :
    Calls Tryz.prog 5 #[.agg #[.slice a n c, .slice a2 n2 c2]] w (ResPost os (resV os ts) w) := by
  have hV := Lib.hid (rvW_mk w a n c a2 n2 c2)
  obtain ⟨w0, hw0⟩ : ∃ W, (w.alloc (.cells #[.slice a n c, .slice a2 n2 c2] 25)).alloc (.cells #[.slice none 0 0, .slice none 0 0] 25) = W := ⟨_, rfl⟩
  rw [hw0] at hV
  have hgs := hgl hg.out
  go_enter Tryz.func5, Tryz.ntmps5
  go_upto_region 1 with fail
  (try rw [hw0])
  clear hw0
  obtain ⟨v0, v1, v2, v3, v4, v5, v6⟩ := hV.out
  go_wp2_with fail
  clear v0 v1 v2 v3 v4 v5
  refine (tMay_any a a2 n c n2 c2 os ts _ (Lib.hid (h.out.below v6)) hsz hl (Lib.hid (h2.out.below v6)) hsz2 hl2 (Lib.hid (hg.out.below v6))).mono ?_
  rintro e w1 ⟨rfl, hb⟩
  have hV := Lib.hid (hV.out.below hb)
  clear hb v6
  cases hmay : mayV os ts
  · have hr : Hid (resV os ts = .error (600, 0)) := Lib.hid (by unfold resV; rw [hmay]; rfl)
    obtain ⟨v0, v1, v2, v3, v4, v5, v6⟩ := hV.out
    have hv5 := v5 0
    have hv6 := v5 1
    obtain ⟨s0, s1, s2⟩ := two_set v3 v4 (.slice none 0 0) (.slice none 0 0)
    have hfin : Hid (Below w.heap.size w ((w1.setCell ⟨w.heap.size + 1, 0, none⟩ (.slice none 0 0)).setCell ⟨w.heap.size + 1, 1, none⟩ (.slice none 0 0))) := Lib.hid ((v6.setCell (by show w.heap.size ≤ w.heap.size + 1; omega) _).setCell (by show w.heap.size ≤ w.heap.size + 1; omega) _)
    clear v6
    go_wp2_with fail
    exact bodyPost_ret (v := .tuple #[.agg #[.slice none 0 0, .slice none 0 0], .int .i64 0, .int .i64 600]) (by simp [results, Tryz.results5, go_sem, *]) rfl (res_err hr.out hfin.out)
  · obtain ⟨ht1, ht2, ho4, htb⟩ := mayV_tree hmay
    have hn4 : n ≤ 4 := by rw [h.out.1]; exact ho4
    obtain rfl : n2 = ts.length := h2.out.1
    obtain ⟨v0, v1, v2, v3, v4, v5, v6⟩ := hV.out
    have hV1 := v0
    have kP := Lib.hid (places_any a n c os w1 (Lib.hid (h.out.below v6)) hsz (by omega))
    go_wp2_with fail
    clear v0 v1 v2 v3 v4 v5 v6
    refine kP.out.mono ?_
    rintro e w2 ⟨M, rfl, hM, hMl, hb⟩
    have hV := Lib.hid (hV.out.below hb)
    have hMw : w.heap.size + 1 < M := by have := hV1; omega
    clear hb kP
    have hMlt := hM.lt
    have hM := Lib.hid hM
    obtain ⟨k, hkl, hk1, hk2⟩ := op_len2 hM.out
    have hkl2 := fun ty => hkl ty w2 rfl
    have hol : (opN os).length = n := by unfold opN; rw [List.length_map, h.out.1]
    rw [hol] at hk1 hk2
    clear hkl hol
    cases hdup : dupB (opN os)
    · have hnd := dupB_iff.1 hdup
      obtain rfl : k = n := hk2.2 hnd
      have hr : Hid (resV os ts = resS (opN os) ts.length ts (ts.length - 1) []) := Lib.hid (by unfold resV; rw [hmay, hdup]; rfl)
      obtain ⟨v0, v1, v2, v3, v4, v5, v6⟩ := hV.out
      have kC := Lib.hid (cloneN_any a2 ts.length c2 ts w2 (Lib.hid (h2.out.below v6)) (by omega))
      have hw2 := v0
      have hnd := Lib.hid hnd
      have htb := Lib.hid htb
      clear hk1 hk2 hdup hmay
      go_wp2_with fail
      clear v0 v1 v2 v3 v4 v5 v6
      refine kC.out.mono ?_
      rintro e w3 ⟨vN, rfl, hvN, hb⟩
      have hvc := hvN.cases
      have hV := Lib.hid (hV.out.below hb)
      have hM := Lib.hid (hM.out.below hb)
      have hM2 : M < w2.heap.size := hMlt
      rcases hvc with ⟨_, hz⟩ | ⟨N, cp, rfl, hNb, hNl, hcp, hNd, hNf⟩
      · rw [hz] at ht1; simp at ht1
      clear hvN kC hb
      obtain ⟨w4, hw4⟩ : ∃ W, (w3.alloc (.cells #[.slice (some ⟨N, 0, none⟩) ts.length cp, .map (some M)] 44)) = W := ⟨_, rfl⟩
      have hb4 : Below w3.heap.size w3 w4 := by rw [← hw4]; exact below_alc _ _
      have hR0 : w4.cell? ⟨w3.heap.size, 0, none⟩ = some (.slice (some ⟨N, 0, none⟩) ts.length cp) := by rw [← hw4, World.cell?_alloc_at _ _ _ _ rfl]; rfl
      have hR1 : w4.cell? ⟨w3.heap.size, 1, none⟩ = some (.map (some M)) := by rw [← hw4, World.cell?_alloc_at _ _ _ _ rfl]; rfl
      have hRl : w3.heap.size < w4.heap.size := by rw [← hw4]; simp
      have hV4 := Lib.hid (hV.out.below hb4)
      have hRS := Lib.hid (show RsW w.heap.size N M w3.heap.size cp (opN os) w4 ts from ⟨hR0, hR1, hRl, hNd.below hb4 hNl, by omega, fun o => by rw [hb4.frozen (p := ⟨N, o, none⟩) hNl]; exact hNf o, hM.out.below hb4, fun i hi => (hsz2.out _ (by rw [List.getD_eq_getElem?_getD, List.getElem?_eq_getElem hi]; exact List.getElem_mem hi)).1, by have := hV4.out.2.2.2.2.2.2.size; omega⟩)
      have kR := Lib.hid (resolve_any w.heap.size N M w3.heap.size cp (opN os) hnd.out (by omega) (by omega) ts.length (ts.length - 1) [] (.slice none 0 0) ts w4 (by omega) (by omega) (by omega) (downs_of ht1 htb.out) (by simp; omega) hRS (Lib.hid (OwnS.nil _ _)) (Lib.hid (fun k hk => by cases hk)))
      have e1 : IntKind.i64.wrap ((ts.length : Int) - 1) = ((ts.length - 1 : Nat) : Int) := by rw [IntWalk.i64_in _ (by omega)]; omega
      rw [← hr.out] at kR
      clear hNd hNf hR1 hRS
      go_wp2_with fail
      (try rw [hw4])
      clear hw4 hR0 hb4
      refine kR.out.mono ?_
      rintro e w5 ⟨st5, rv, rfl, hR5, hS5, _, hB5, hres⟩
      have hV5 := Lib.hid (hV4.out.bar hB5 (fun h => by rcases h with e | e; omega; cases e) (fun h => by rcases h with e | e; omega; cases e) (fun k h => by rcases h with e | e; omega; cases e))
      have hg5 := Lib.hid (hg.out.below hV5.out.2.2.2.2.2.2)
      have hR5 := Lib.hid hR5
      have hw5 : w4.heap.size ≤ w5.heap.size := hB5.size
      clear kR hV hV4 hM hB5 e1
      obtain ⟨w6, hw6⟩ : ∃ W, ((w5.alloc (.cells #[.pointer none] 48)).alloc (.cells #[.int .i64 0] 27)) = W := ⟨_, rfl⟩
      have hb6 : Below w5.heap.size w5 w6 := by rw [← hw6]; exact belA _ (below_alc _ _)
      have hx8 : w6.cell? ⟨w5.heap.size, 0, none⟩ = some (.pointer none) := by rw [← hw6]; exact (BoxAt.alloc _ (box_lit w5 _ _ _ rfl)).2
      have hx9 : w6.cell? ⟨w5.heap.size + 1, 0, none⟩ = some (.int .i64 0) := by rw [← hw6]; exact (box_lit (w5.alloc _) _ _ _ (by simp)).2
      have hf8 : w6.frozen? ⟨w5.heap.size, 0, none⟩ = false := by rw [← hw6]; simp [go_sem]
      have hf9 : w6.frozen? ⟨w5.heap.size + 1, 0, none⟩ = false := by rw [← hw6]; simp [go_sem]
      have hl6 : w5.heap.size + 1 < w6.heap.size := by rw [← hw6]; simp
      cases hq : resV os ts with
      | error er =>
        rw [hq] at hres
        obtain ⟨g, nm, rfl, hgc⟩ := hres
        have hgl5 : g < w5.heap.size := (Array.getElem?_eq_some_iff.1 hgc).1
        have hr3 : ¬ g = w.heap.size + 1 := fun e => by
          have h1 : w5.cell? ⟨g, 0, none⟩ = some (.string nm) := (Lib.cell_of_heap hgc 0).trans rfl
          rw [e, hV5.out.2.2.2.1] at h1
          cases h1
        have hgc6 : w6.heap[g]? = some (.cells #[.string nm, .int .i64 er.2, .iface 27 (.int .i64 er.1)] 53 (0, 0)) := by rw [hb6.block g hgl5]; exact hgc
        go_wp2_with fail
        (try rw [hw6])
        clear hw6
        have hV6 := Lib.hid (hV5.out.below hb6)
        have hg6 := hg5.out.below hb6
        refine (ScA.as_hit ⟨g, 0, none⟩ ⟨w5.heap.size, 0, none⟩ _ w6 hg6 hx8 hf8).mono ?_
        rintro e w7 ⟨rfl, W0, hbW, rfl⟩
        have y8 := carry hbW (by omega) hx8
        have y9 := carry hbW (by omega) hx9
        have yf : W0.frozen? ⟨w5.heap.size + 1, 0, none⟩ = false := by rw [hbW.frozen (p := ⟨w5.heap.size + 1, 0, none⟩) (by show w5.heap.size + 1 < _; omega)]; exact hf9
        have yB : Bar (fun k => k = w5.heap.size) w6 (W0.setCell ⟨w5.heap.size, 0, none⟩ (.pointer (some ⟨g, 0, none⟩))) := (Bar.of_below hbW).trans (Bar.set (S := fun k => k = w5.heap.size) ⟨w5.heap.size, 0, none⟩ _ rfl) fun _ _ h => h
        obtain ⟨w7, hw7⟩ : ∃ W, W0.setCell ⟨w5.heap.size, 0, none⟩ (.pointer (some ⟨g, 0, none⟩)) = W := ⟨_, rfl⟩
        have z8 : w7.cell? ⟨w5.heap.size, 0, none⟩ = some (.pointer (some ⟨g, 0, none⟩)) := by rw [← hw7]; exact setS y8
        have z9 : w7.cell? ⟨w5.heap.size + 1, 0, none⟩ = some (.int .i64 0) := by rw [← hw7]; exact setO y9 (by simp)
        have zf : w7.frozen? ⟨w5.heap.size + 1, 0, none⟩ = false := by rw [← hw7]; simp only [World.frozen?_setCell]; exact yf
        rw [hw7] at yB ⊢
        have hgc7 : w7.heap[g]? = some (.cells #[.string nm, .int .i64 er.2, .iface 27 (.int .i64 er.1)] 53 (0, 0)) := by rw [yB.block g (by omega) (by omega)]; exact hgc6
        have hV7 := Lib.hid (hV6.out.bar yB (by have := hV5.out.1; omega) (by have := hV5.out.1; omega) (fun k e => by have := hV5.out.1; have e : k = w5.heap.size := e; omega))
        have hg7 : errTy w7 := hg6.bar yB (by have := hV5.out.1; omega)
        have hl7 : w5.heap.size + 1 < w7.heap.size := by have := yB.size; omega
        clear hw7 y8 y9 yf yB hbW hgc hgc6 hV6 hg6 hx8 hx9 hf8 hf9 hb6 hl6
        go_wp2_with fail
        refine (ScA.as_wrap g er.1 ⟨w5.heap.size + 1, 0, none⟩ _ w7 hg7 ((Lib.cell_of_heap hgc7 2).trans rfl) z9 zf).mono ?_
        rintro e w8 ⟨rfl, W1, hbW, rfl⟩
        have y8 := carry hbW (by omega) z8
        have y9 := carry hbW (by omega) z9
        have yB : Bar (fun k => k = w5.heap.size + 1) w7 (W1.setCell ⟨w5.heap.size + 1, 0, none⟩ (.int .i64 er.1)) := (Bar.of_below hbW).trans (Bar.set (S := fun k => k = w5.heap.size + 1) ⟨w5.heap.size + 1, 0, none⟩ _ rfl) fun _ _ h => h
        obtain ⟨w9, hw9⟩ : ∃ W, W1.setCell ⟨w5.heap.size + 1, 0, none⟩ (.int .i64 er.1) = W := ⟨_, rfl⟩
        have q8 : w9.cell? ⟨w5.heap.size, 0, none⟩ = some (.pointer (some ⟨g, 0, none⟩)) := by rw [← hw9]; exact setO y8 (by simp)
        have q9 : w9.cell? ⟨w5.heap.size + 1, 0, none⟩ = some (.int .i64 er.1) := by rw [← hw9]; exact setS y9
        rw [hw9] at yB ⊢
        have qg : w9.cell? ⟨g, 1, none⟩ = some (.int .i64 er.2) := by
          have := yB.block g (by omega) (by omega)
          exact (Lib.cell_of_heap (this.trans hgc7) 1).trans rfl
        have hV9 := Lib.hid (hV7.out.bar yB (by have := hV5.out.1; omega) (by have := hV5.out.1; omega) (fun k e => by have := hV5.out.1; have e : k = w5.heap.size + 1 := e; omega))
        have hr1 : ¬ w5.heap.size = w.heap.size + 1 := by have := hV5.out.1; omega
        have hr2 : ¬ w5.heap.size + 1 = w.heap.size + 1 := by have := hV5.out.1; omega
        clear hw9 y8 y9 yB hbW hgc7 hV7 hg7 z8 z9 zf hl7
        go_wp2_with fail
        refine wp_region_held_drew (S := fun W => W.cell? ⟨w5.heap.size, 0, none⟩ = some (.pointer (some ⟨g, 0, none⟩)) ∧ W.cell? ⟨g, 1, none⟩ = some (.int .i64 er.2) ∧ W.cell? ⟨w5.heap.size + 1, 0, none⟩ = some (.int .i64 er.1)) (by kernel_rfl) (by have hd : Bar (fun _ => False) w9 w9.drew := Bar.of_below ((Below.refl _ _).drew); exact ⟨hd.cell q8 id, hd.cell qg id, hd.cell q9 id⟩) (fun hHeld => ?_)
        have hV9 := Lib.hid (hV9.out.below ((Below.refl _ _).drew))
        generalize w9.drew = wd at hV9 hHeld ⊢
        clear q8 q9 qg
        refine rg_take 0 (some 42) (v := ?v1) rfl rfl (by kernel_rfl) (by kernel_rfl) (by kernel_rfl) (fun _ _ _ h => h) (by rfl) ?hy1 (by assumption) ?_
        case hy1 => intro W hSW; (try dsimp only at hSW); go_simp; (try with_reducible rfl)
        try simp only [Act.put, List.setIfInBounds_toArray, List.set_cons_zero, List.set_cons_succ]
        refine rg_take 1 (some 43) (v := ?v2) rfl rfl (by kernel_rfl) (by kernel_rfl) (by kernel_rfl) (fun _ _ _ h => h) (by rfl) ?hy2 (by assumption) ?_
        case hy2 => intro W hSW; (try dsimp only at hSW); go_simp; (try with_reducible rfl)
        try simp only [Act.put, List.setIfInBounds_toArray, List.set_cons_zero, List.set_cons_succ]
        refine rg_take 2 (some 44) (v := ?v3) rfl rfl (by kernel_rfl) (by kernel_rfl) (by kernel_rfl) (fun _ _ _ h => h) (by rfl) ?hy3 (by assumption) ?_
        case hy3 => intro W hSW; (try dsimp only at hSW); go_simp; (try with_reducible rfl)
        try simp only [Act.put, List.setIfInBounds_toArray, List.set_cons_zero, List.set_cons_succ]
        refine rg_take 3 (some 45) (v := ?v4) rfl rfl (by kernel_rfl) (by kernel_rfl) (by kernel_rfl) (fun _ _ _ h => h) (by rfl) ?hy4 (by assumption) ?_
        case hy4 => intro W hSW; (try dsimp only at hSW); go_simp; (try with_reducible rfl)
        try simp only [Act.put, List.setIfInBounds_toArray, List.set_cons_zero, List.set_cons_succ]
        refine rg_take 4 (some 46) (v := ?v5) rfl rfl (by kernel_rfl) (by kernel_rfl) (by kernel_rfl) (fun _ _ _ h => h) (by rfl) ?hy5 (by assumption) ?_
        case hy5 => intro W hSW; (try dsimp only at hSW); go_simp; (try with_reducible rfl)
        try simp only [Act.put, List.setIfInBounds_toArray, List.set_cons_zero, List.set_cons_succ]
        refine rg_take 5 (some 47) (v := ?v6) rfl rfl (by kernel_rfl) (by kernel_rfl) (by kernel_rfl) (fun _ _ _ h => h) (by rfl) ?hy6 (by assumption) ?_
        case hy6 => intro W hSW; (try dsimp only at hSW); go_simp; (try with_reducible rfl)
        try simp only [Act.put, List.setIfInBounds_toArray, List.set_cons_zero, List.set_cons_succ]
        refine rg_one 6 rfl (by kernel_rfl) (by rfl) (fun K hK => ?_)
        obtain ⟨v0, v1, v2, v3, v4, v5, v6⟩ := hV9.out
        have hv5 := v5 0
        have hv6 := v5 1
        obtain ⟨s0, s1, s2⟩ := two_set v3 v4 (.slice none 0 0) (.slice none 0 0)
        have hfin : Hid (Below w.heap.size w ((wd.setCell ⟨w.heap.size + 1, 0, none⟩ (.slice none 0 0)).setCell ⟨w.heap.size + 1, 1, none⟩ (.slice none 0 0))) := Lib.hid ((v6.setCell (by show w.heap.size ≤ w.heap.size + 1; omega) _).setCell (by show w.heap.size ≤ w.heap.size + 1; omega) _)
        go_simp
        refine hK.out _ _ ⟨s2.cell hHeld.1 hr1, s2.cell hHeld.2.1 hr3, s2.cell hHeld.2.2 hr2⟩ (fun hHeldS => ?_)
        clear hK K hHeld v0 v1 v2 v3 v4 v5 v6 hv5 hv6
        try simp only [Act.put, List.setIfInBounds_toArray, List.set_cons_zero, List.set_cons_succ]
        refine rg_take 7 (some 3) (v := ?v7) rfl rfl (by kernel_rfl) (by kernel_rfl) (by kernel_rfl) (fun _ _ _ h => h) (by rfl) ?hy7 (by assumption) ?_
        case hy7 => intro W hSW; (try dsimp only at hSW); go_simp; (try with_reducible rfl)
        try simp only [Act.put, List.setIfInBounds_toArray, List.set_cons_zero, List.set_cons_succ]
        refine rg_take 8 (some 4) (v := ?v8) rfl rfl (by kernel_rfl) (by kernel_rfl) (by kernel_rfl) (fun _ _ _ h => h) (by rfl) ?hy8 (by assumption) ?_
        case hy8 => intro W hSW; (try dsimp only at hSW); go_simp; (try with_reducible rfl)
        try simp only [Act.put, List.setIfInBounds_toArray, List.set_cons_zero, List.set_cons_succ]
        refine wpAnyH_done (by kernel_rfl) ?_ _
        go_wp2_with fail
        exact bodyPost_ret (v := .tuple #[.agg #[.slice none 0 0, .slice none 0 0], .int .i64 er.2, .int .i64 er.1]) (by simp [results, Tryz.results5, go_sem, s0, s1]) rfl (by first | exact res_err (c := er.1) (p := er.2) hq hfin.out | exact res_err (c := er.1) (p := er.2) rfl hfin.out)
      | ok ss =>
        rw [hq] at hres
        obtain ⟨rfl, rfl⟩ := hres
        have kN := fun (t : Value) (W : World) => as_nil t W
        go_wp2_with ((go_at_call 20; refine (kN _ _).mono ?_; rintro e w' ⟨rfl, rfl⟩))
        (try rw [hw6])
        clear hw6 kN
        have hV6 := Lib.hid (hV5.out.below hb6)
        have hR6 := Lib.hid (hR5.out.below hb6)
        have hp1 := hV6.out.2.1
        have hrn := hR6.out.rN
        have hrl := hR6.out.rl
        have hr1 : ¬ w3.heap.size = w.heap.size + 1 := by omega
        clear hx8 hx9 hf8 hf9 hb6 hl6
        refine wp_region_held_drew (S := fun W => W.cell? ⟨w.heap.size, 0, none⟩ = some (.slice a k c) ∧ W.cell? ⟨w3.heap.size, 0, none⟩ = some (.slice (some ⟨N, 0, none⟩) st5.length cp)) (by kernel_rfl) (by have hd : Bar (fun _ => False) w6 w6.drew := Bar.of_below ((Below.refl _ _).drew); exact ⟨hd.cell hp1 id, hd.cell hrn id⟩) (fun hHeld => ?_)
        have hV6 := Lib.hid (hV6.out.below ((Below.refl _ _).drew))
        have hR6 := Lib.hid (hR6.out.below ((Below.refl _ _).drew))
        generalize w6.drew = we at hV6 hR6 hHeld ⊢
        clear hp1 hrn hrl
        refine rg_take 0 (some 48) (v := ?v9) rfl rfl (by kernel_rfl) (by kernel_rfl) (by kernel_rfl) (fun _ _ _ h => h) (by rfl) ?hy9 (by assumption) ?_
        case hy9 => intro W hSW; (try dsimp only at hSW); go_simp; (try with_reducible rfl)
        try simp only [Act.put, List.setIfInBounds_toArray, List.set_cons_zero, List.set_cons_succ]
        refine rg_take 1 (some 49) (v := ?v10) rfl rfl (by kernel_rfl) (by kernel_rfl) (by kernel_rfl) (fun _ _ _ h => h) (by rfl) ?hy10 (by assumption) ?_
        case hy10 => intro W hSW; (try dsimp only at hSW); go_simp; (try with_reducible rfl)
        try simp only [Act.put, List.setIfInBounds_toArray, List.set_cons_zero, List.set_cons_succ]
        refine rg_take 3 (some 51) (v := ?v11) rfl rfl (by kernel_rfl) (by kernel_rfl) (by kernel_rfl) (fun _ _ _ h => h) (by rfl) ?hy11 (by assumption) ?_
        case hy11 => intro W hSW; (try dsimp only at hSW); go_simp; (try with_reducible rfl)
        try simp only [Act.put, List.setIfInBounds_toArray, List.set_cons_zero, List.set_cons_succ]
        refine rg_take 4 (some 52) (v := ?v12) rfl rfl (by kernel_rfl) (by kernel_rfl) (by kernel_rfl) (fun _ _ _ h => h) (by rfl) ?hy12 (by assumption) ?_
        case hy12 => intro W hSW; (try dsimp only at hSW); go_simp; (try with_reducible rfl)
        try simp only [Act.put, List.setIfInBounds_toArray, List.set_cons_zero, List.set_cons_succ]
        refine rg_one 2 rfl (by kernel_rfl) (by rfl) (fun K hK => ?_)
        have kO := Lib.hid (cloneO_any a k c os we (Lib.hid (h.out.below hV6.out.2.2.2.2.2.2)) (by omega))
        have hwl := hV6.out.2.2.2.2.2.2.size
        go_simp
        (go_at_call 21; refine kO.out.mono ?_; rintro e wd ⟨vO, rfl, hvO, hb⟩)
        have hV9 := Lib.hid (hV6.out.below hb)
        have hR9 := Lib.hid (hR6.out.below hb)
        have hH : wd.cell? ⟨w.heap.size, 0, none⟩ = some (.slice a k c) ∧ wd.cell? ⟨w3.heap.size, 0, none⟩ = some (.slice (some ⟨N, 0, none⟩) st5.length cp) := ⟨hV9.out.2.1, hR9.out.rN⟩
        obtain ⟨ao, no, co, hvs⟩ : ∃ a n c, vO = .slice a n c := by rcases hvO.cases with ⟨e, _⟩ | ⟨g, c, e, _⟩ <;> exact ⟨_, _, _, e⟩
        subst hvs
        refine hK.out _ _ hH (fun hHeld => ?_)
        clear hK K kO hb hH
        try simp only [Act.put, List.setIfInBounds_toArray, List.set_cons_zero, List.set_cons_succ]
        refine rg_take 5 (some 53) (v := ?v13) rfl rfl (by kernel_rfl) (by kernel_rfl) (by kernel_rfl) (fun _ _ _ h => h) (by rfl) ?hy13 (by assumption) ?_
        case hy13 => intro W hSW; (try dsimp only at hSW); go_simp; (try with_reducible rfl)
        try simp only [Act.put, List.setIfInBounds_toArray, List.set_cons_zero, List.set_cons_succ]
        have hO9 := Lib.hid hvO
        have hr2 : ¬ w.heap.size = w.heap.size + 1 := by omega
        refine rg_one 6 rfl (by kernel_rfl) (by rfl) (fun K hK => ?_)
        obtain ⟨v0, v1, v2, v3, v4, v5, v6⟩ := hV9.out
        have hv5 := v5 0
        have hv6 := v5 1
        obtain ⟨s0, s1, s2⟩ := two_set v3 v4 (.slice ao no co) (.slice (some ⟨N, 0, none⟩) st5.length cp)
        have hfin : Hid (Below w.heap.size w ((wd.setCell ⟨w.heap.size + 1, 0, none⟩ (.slice ao no co)).setCell ⟨w.heap.size + 1, 1, none⟩ (.slice (some ⟨N, 0, none⟩) st5.length cp))) := Lib.hid ((v6.setCell (by show w.heap.size ≤ w.heap.size + 1; omega) _).setCell (by show w.heap.size ≤ w.heap.size + 1; omega) _)
        go_simp
        refine hK.out _ _ ⟨s2.cell hHeld.1 hr2, s2.cell hHeld.2 hr1⟩ (fun hHeldS => ?_)
        clear hK K hHeld v0 v1 v2 v3 v4 v5 v6 hv5 hv6
        try simp only [Act.put, List.setIfInBounds_toArray, List.set_cons_zero, List.set_cons_succ]
        refine rg_take 7 (some 3) (v := ?v14) rfl rfl (by kernel_rfl) (by kernel_rfl) (by kernel_rfl) (fun _ _ _ h => h) (by rfl) ?hy14 (by assumption) ?_
        case hy14 => intro W hSW; (try dsimp only at hSW); go_simp; (try with_reducible rfl)
        try simp only [Act.put, List.setIfInBounds_toArray, List.set_cons_zero, List.set_cons_succ]
        refine rg_take 8 (some 4) (v := ?v15) rfl rfl (by kernel_rfl) (by kernel_rfl) (by kernel_rfl) (fun _ _ _ h => h) (by rfl) ?hy15 (by assumption) ?_
        case hy15 => intro W hSW; (try dsimp only at hSW); go_simp; (try with_reducible rfl)
        try simp only [Act.put, List.setIfInBounds_toArray, List.set_cons_zero, List.set_cons_succ]
        refine wpAnyH_done (by kernel_rfl) ?_ _
        have hON := hO9.out
        have hfo : OwnO w.heap.size ((wd.setCell ⟨w.heap.size + 1, 0, none⟩ (.slice ao no co)).setCell ⟨w.heap.size + 1, 1, none⟩ (.slice (some ⟨N, 0, none⟩) st5.length cp)) (.slice ao no co) os := by
          refine Bar.own s2 ⟨hON.1, ?_⟩ (fun k hk e => ?_)
          · rcases hON.2 with e | ⟨g, cap, cur, e1, e2, e3⟩
            · exact .inl e
            · exact .inr ⟨g, cap, cur, e1, by omega, e3⟩
          · have := (own_lt hON k hk).1
            have := hV6.out.1
            have e : k = w.heap.size + 1 := e
            omega
        have hfn : NdSl ((wd.setCell ⟨w.heap.size + 1, 0, none⟩ (.slice ao no co)).setCell ⟨w.heap.size + 1, 1, none⟩ (.slice (some ⟨N, 0, none⟩) st5.length cp)) N 0 st5 := hR9.out.nd.bar s2 (by omega)
        have hfz : ∀ o, ((wd.setCell ⟨w.heap.size + 1, 0, none⟩ (.slice ao no co)).setCell ⟨w.heap.size + 1, 1, none⟩ (.slice (some ⟨N, 0, none⟩) st5.length cp)).frozen? ⟨N, o, none⟩ = false := fun o => by simp only [World.frozen?_setCell]; exact hR9.out.fz o
        have hfl : N < ((wd.setCell ⟨w.heap.size + 1, 0, none⟩ (.slice ao no co)).setCell ⟨w.heap.size + 1, 1, none⟩ (.slice (some ⟨N, 0, none⟩) st5.length cp)).heap.size := by simp; exact hR9.out.nl
        have hfo := Lib.hid hfo
        have hfn := Lib.hid hfn
        have hfz := Lib.hid hfz
        have hfl := Lib.hid hfl
        have hNw : w.heap.size ≤ N := by omega
        clear hvO hON hO9
        go_wp2_with fail
        exact bodyPost_ret (v := .tuple #[.agg #[.slice ao no co, .slice (some ⟨N, 0, none⟩) st5.length cp], .int .i64 0, .int .i64 0]) (by simp [results, Tryz.results5, go_sem, s0, s1]) rfl (by first | exact ⟨_, _, _, _, _, _, _, _, rfl, hfin.out, rfl, rfl, hfo.out, N, rfl, rfl, hNw, hfl.out, hfn.out, hfz.out⟩ | (rw [hq]; exact ⟨_, _, _, _, _, _, _, _, rfl, hfin.out, rfl, rfl, hfo.out, N, rfl, rfl, hNw, hfl.out, hfn.out, hfz.out⟩))
    · have hnd : ¬ (opN os).Nodup := fun e => by rw [dupB_iff.2 e] at hdup; cases hdup
      have hkn : ¬ k = n := fun e => hnd (hk2.1 e)
      have hr : Hid (resV os ts = .error (602, 0)) := Lib.hid (by unfold resV; rw [hmay, hdup]; rfl)
      have hkb : ((k : Int) != (n : Int)) = true := by rw [bne_iff_ne]; omega
      clear hk1 hk2 hdup hmay hnd htb hkn
      obtain ⟨v0, v1, v2, v3, v4, v5, v6⟩ := hV.out
      have hv5 := v5 0
      have hv6 := v5 1
      obtain ⟨s0, s1, s2⟩ := two_set v3 v4 (.slice none 0 0) (.slice none 0 0)
      have hfin : Hid (Below w.heap.size w ((w2.setCell ⟨w.heap.size + 1, 0, none⟩ (.slice none 0 0)).setCell ⟨w.heap.size + 1, 1, none⟩ (.slice none 0 0))) := Lib.hid ((v6.setCell (by show w.heap.size ≤ w.heap.size + 1; omega) _).setCell (by show w.heap.size ≤ w.heap.size + 1; omega) _)
      clear v6
      go_wp2_with fail
      exact bodyPost_ret (v := .tuple #[.agg #[.slice none 0 0, .slice none 0 0], .int .i64 0, .int .i64 602]) (by simp [results, Tryz.results5, go_sem, *]) rfl (res_err hr.out hfin.out)
end Go.Proofs.YtfajbkpeioejoaaGreatDoor
