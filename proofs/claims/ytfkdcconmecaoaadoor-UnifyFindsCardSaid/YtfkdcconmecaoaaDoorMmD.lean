/- (*matcher).match, whole; match.Instance. -/
import Derived.Test.YtfkdcconmecaoaaDoorMmA
import Derived.Test.YtfkdcconmecaoaaDoorSbE
/- (*matcher).match, whole; match.Instance. -/
namespace Go.Proofs.YtfkdcconmecaoaaDoor
open Go.RowKit Go.Maps
set_option linter.unusedVariables false
set_option linter.unusedSimpArgs false

/-- the cells of two functions' shapes that their match reads. -/
def FnC (W : World) (gg gs pa pb qa qb : Nat) (r r' : Rw) : Prop :=
  W.cell? ⟨gg, 0, none⟩ = some (.int .i64 3) ∧ W.cell? ⟨gg, 2, none⟩ = some (.pointer (some ⟨pa, 0, none⟩)) ∧ W.cell? ⟨gg, 3, none⟩ = some (.pointer (some ⟨pb, 0, none⟩)) ∧ W.cell? ⟨gg, 4, none⟩ = some (.int .i64 r.a) ∧ W.cell? ⟨gg, 5, none⟩ = some (.int .i64 r.b) ∧ W.cell? ⟨gg, 6, none⟩ = some (.int .i64 r.c) ∧ W.cell? ⟨gg, 7, none⟩ = some (.int .i64 r.d) ∧ W.cell? ⟨gg, 8, none⟩ = some (.int .i64 r.t) ∧
  W.cell? ⟨gs, 0, none⟩ = some (.int .i64 3) ∧ W.cell? ⟨gs, 2, none⟩ = some (.pointer (some ⟨qa, 0, none⟩)) ∧ W.cell? ⟨gs, 3, none⟩ = some (.pointer (some ⟨qb, 0, none⟩)) ∧ W.cell? ⟨gs, 4, none⟩ = some (.int .i64 r'.a) ∧ W.cell? ⟨gs, 5, none⟩ = some (.int .i64 r'.b) ∧ W.cell? ⟨gs, 6, none⟩ = some (.int .i64 r'.c) ∧ W.cell? ⟨gs, 7, none⟩ = some (.int .i64 r'.d) ∧ W.cell? ⟨gs, 8, none⟩ = some (.int .i64 r'.t) ∧ gg < W.heap.size ∧ gs < W.heap.size
theorem fnC_of {w : World} {a b a' b' : TT} {r r' : Rw} {gg gs pa pb qa qb : Nat} {n n' : Nat} {c c' : Bool} (hA : w.heap[gg]? = some (shB 3 0 (ptrS pa) (ptrS pb) r n c)) (hB : w.heap[gs]? = some (shB 3 0 (ptrS qa) (ptrS qb) r' n' c')) : FnC w gg gs pa pb qa qb r r' := by
  have cA := shC_of hA
  have cB := shC_of hB
  exact ⟨cA.c0, cA.c2, cA.c3, cA.c4, cA.c5, cA.c6, cA.c7, cA.c8, cB.c0, cB.c2, cB.c3, cB.c4, cB.c5, cB.c6, cB.c7, cB.c8, (Array.getElem?_eq_some_iff.1 hA).1, (Array.getElem?_eq_some_iff.1 hB).1⟩
set_option maxRecDepth 100000 in
set_option maxHeartbeats 16000000 in
theorem mtMatch_any : ∀ (G S : TT) (gg gs gm b1 b2 n : Nat) (m : MS) (w : World), Hid (MtAt w gm b1 b2 n m) → Hid (Shp w G gg) → Hid (Shp w S gs) → G.ok = true → S.ok = true → MsOk m → n + G.sz ≤ 1000000 →
    Calls Tryd.prog 42 #[.pointer (some ⟨gm, 0, none⟩), ptrS gg, ptrS gs] w (MrPost gm b1 b2 (n + G.sz) (mtT G S m) w) := by
  intro G
  induction G with
  | base k => intro S gg gs gm b1 b2 n m w h hG hS hoG hoS hm hn; exact mtMatch_leaf _ _ _ _ _ _ _ n _ _ h hG hS hoG hoS (by intro e; have e : k = 2 := e; subst e; simp [TT.ok] at hoG) (by intro e; have e : k = 3 := e; subst e; simp [TT.ok] at hoG) _ (by omega)
  | var v => intro S gg gs gm b1 b2 n m w h hG hS hoG hoS hm hn; exact mtMatch_var _ _ _ _ _ _ _ _ _ _ h hG hS hoG hoS hm hn
  | fn a r b iha ihb =>
    intro S gg gs gm b1 b2 n m w h hG hS hoG hoS hm hn
    cases S with
    | base k => exact mtMatch_leaf _ _ _ _ _ _ _ n _ _ h hG hS hoG hoS (by intro e; have e : (3 : Int) = 2 := e; omega) (by intro _ e; have e : k = 3 := e; subst e; simp [TT.ok] at hoS) _ (by omega)
    | var v => exact mtMatch_leaf _ _ _ _ _ _ _ n _ _ h hG hS hoG hoS (by intro e; have e : (3 : Int) = 2 := e; omega) (by intro _ e; have e : (2 : Int) = 3 := e; omega) _ (by omega)
    | fn a' r' b' =>
      obtain ⟨pa, pb, hbA, hsa, hsb⟩ := hG.out
      obtain ⟨qa, qb, hbB, hta, htb⟩ := hS.out
      unfold TT.ok at hoG hoS
      simp only [Bool.and_eq_true] at hoG hoS
      have hsz : (TT.fn a r b).sz = a.sz + b.sz + 1 := rfl
      have hFC : Hid (∀ W, Bar (fun k => k = b1 ∨ k = b2) w W → FnC W gg gs pa pb qa qb r r') := Lib.hid fun W hW => by
        obtain ⟨pa', pb', hbA', _, _⟩ := h.out.shp hW hG.out
        obtain ⟨qa', qb', hbB', _, _⟩ := h.out.shp hW hS.out
        have e1 := h.out.maps.1
        have e2 := h.out.maps.2
        have key : ∀ {g : Nat} {cs : Array Value} {T : TypeId} {fr : Nat × Nat}, w.heap[g]? = some (.cells cs T fr) → W.heap[g]? = w.heap[g]? := by
          intro g cs T fr hg
          refine hW.block g (Array.getElem?_eq_some_iff.1 hg).1 ?_
          obtain ⟨_, _, e1⟩ := e1
          obtain ⟨_, _, e2⟩ := e2
          rintro (rfl | rfl)
          · rw [e1] at hg; cases hg
          · rw [e2] at hg; cases hg
        exact fnC_of (a := a) (b := b) (a' := a') (b' := b') ((key hbA).trans hbA) ((key hbB).trans hbB)
      have kA : Hid (∀ W, Below w.heap.size w W → Calls Tryd.prog 42 #[.pointer (some ⟨gm, 0, none⟩), ptrS pa, ptrS qa] W (MrPost gm b1 b2 (n + a.sz) (mtT a a' m) W)) := Lib.hid fun W hW =>
        iha a' pa qa gm b1 b2 n m W (Lib.hid (h.out.below hW)) (Lib.hid (hsa.keep hW)) (Lib.hid (hta.keep hW)) hoG.1.1 hoS.1.1 hm (by omega)
      have kR : Hid (∀ W m1, Bar (fun k => k = b1 ∨ k = b2) w W → MtAt W gm b1 b2 (n + a.sz) m1 → Calls Tryd.prog 73 #[.pointer (some ⟨gm, 0, none⟩), .agg #[.int .i64 r.a, .int .i64 r.b, .int .i64 r.c, .int .i64 r.d, .int .i64 r.t], .agg #[.int .i64 r'.a, .int .i64 r'.b, .int .i64 r'.c, .int .i64 r'.d, .int .i64 r'.t]] W (MrPost gm b1 b2 (n + a.sz + 1) (mtR r r' m1) W)) := Lib.hid fun W m1 hW h1 =>
        mtRow_any gm b1 b2 _ m1 r.a r.b r.c r.d r.t r'.a r'.b r'.c r'.d r'.t W (Lib.hid h1) (by omega) hoG.1.2 hoS.1.2
      have kB : Hid (∀ W m2, MsOk m2 → Bar (fun k => k = b1 ∨ k = b2) w W → MtAt W gm b1 b2 (n + a.sz + 1) m2 → Calls Tryd.prog 42 #[.pointer (some ⟨gm, 0, none⟩), ptrS pb, ptrS qb] W (MrPost gm b1 b2 (n + a.sz + 1 + b.sz) (mtT b b' m2) W)) := Lib.hid fun W m2 hm2 hW h2 =>
        ihb b' pb qb gm b1 b2 _ m2 W (Lib.hid h2) (Lib.hid (h.out.shp hW hsb)) (Lib.hid (h.out.shp hW htb)) hoG.2 hoS.2 hm2 (by omega)
      have hmt : mtT (.fn a r b) (.fn a' r' b') m = ((mtT a a' m).bind (mtR r r')).bind (mtT b b') := rfl
      have hm1 := fun m1 => mtT_ok a a' m m1 hoS.1.1 hm
      rw [hmt, hsz]
      have hF0 := hFC.out w (Bar.refl _ _)
      have hgl := h.out.1
      clear iha ihb hbA hbB hsa hsb hta htb h hG hS hmt hsz hoG hoS
      obtain ⟨c0, c1, c2, c3, c4, c5, c6, c7, d0, d1, d2, d3, d4, d5, d6, d7, hl1, hl2⟩ := hF0
      unfold ptrS at *
      cases h1 : mtT a a' m with
      | none =>
        rw [h1] at kA
        have hfin := Lib.hid fun (W : World) (hB : Bar (fun k => k = b1 ∨ k = b2) w W) => (show MrPost gm b1 b2 (n + (a.sz + b.sz + 1)) ((Option.bind none (mtR r r')).bind (mtT b b')) w (.returned (.bool false)) W from ⟨rfl, hB, fun m' h' => by cases h'⟩)
        go_enter Tryd.func42, Tryd.ntmps42
        go_wp2_with fail
        go_quiet (fail)
        go_wp2_with fail
        have hb0 : Bar (fun k => k = b1 ∨ k = b2) w (w.drewN nq).drew := Bar.of_below ((below_drewN (Below.refl _ _) _).drew)
        have hw0 : Below w.heap.size w (w.drewN nq).drew := (below_drewN (Below.refl _ _) _).drew
        have kA' := kA.out _ hw0
        refine wp_region_held_drew (S := fun W => (W.cell? ⟨gg, 0, none⟩ = some (.int .i64 3) ∧ W.cell? ⟨gg, 2, none⟩ = some (.pointer (some ⟨pa, 0, none⟩)) ∧ W.cell? ⟨gg, 3, none⟩ = some (.pointer (some ⟨pb, 0, none⟩)) ∧ W.cell? ⟨gg, 4, none⟩ = some (.int .i64 r.a) ∧ W.cell? ⟨gg, 5, none⟩ = some (.int .i64 r.b) ∧ W.cell? ⟨gg, 6, none⟩ = some (.int .i64 r.c) ∧ W.cell? ⟨gg, 7, none⟩ = some (.int .i64 r.d) ∧ W.cell? ⟨gg, 8, none⟩ = some (.int .i64 r.t) ∧ W.cell? ⟨gs, 0, none⟩ = some (.int .i64 3) ∧ W.cell? ⟨gs, 2, none⟩ = some (.pointer (some ⟨qa, 0, none⟩)) ∧ W.cell? ⟨gs, 3, none⟩ = some (.pointer (some ⟨qb, 0, none⟩)) ∧ W.cell? ⟨gs, 4, none⟩ = some (.int .i64 r'.a) ∧ W.cell? ⟨gs, 5, none⟩ = some (.int .i64 r'.b) ∧ W.cell? ⟨gs, 6, none⟩ = some (.int .i64 r'.c) ∧ W.cell? ⟨gs, 7, none⟩ = some (.int .i64 r'.d) ∧ W.cell? ⟨gs, 8, none⟩ = some (.int .i64 r'.t) ∧ gg < W.heap.size ∧ gs < W.heap.size) ∧ Bar (fun k => k = b1 ∨ k = b2) w W) (by kernel_rfl) ⟨hFC.out _ hb0, hb0⟩ (fun hHeld => ?_)
        clear c0 c1 c2 c3 c4 c5 c6 c7 d0 d1 d2 d3 d4 d5 d6 d7
        generalize (w.drewN nq).drew = w0 at hHeld hb0 hw0 kA' ⊢
        refine rg_take 0 (some 49) (v := ?v1) rfl rfl (by kernel_rfl) (by kernel_rfl) (by kernel_rfl) (fun _ _ _ h => h) (by rfl) ?hy1 (by assumption) ?_
        case hy1 => intro W hSW; (try dsimp only at hSW); go_simp; (try with_reducible rfl)
        try simp only [Act.put, List.setIfInBounds_toArray, List.set_cons_zero, List.set_cons_succ]
        refine rg_take 1 (some 50) (v := ?v2) rfl rfl (by kernel_rfl) (by kernel_rfl) (by kernel_rfl) (fun _ _ _ h => h) (by rfl) ?hy2 (by assumption) ?_
        case hy2 => intro W hSW; (try dsimp only at hSW); go_simp; (try with_reducible rfl)
        try simp only [Act.put, List.setIfInBounds_toArray, List.set_cons_zero, List.set_cons_succ]
        refine rg_take 2 (some 51) (v := ?v3) rfl rfl (by kernel_rfl) (by kernel_rfl) (by kernel_rfl) (fun _ _ _ h => h) (by rfl) ?hy3 (by assumption) ?_
        case hy3 => intro W hSW; (try dsimp only at hSW); go_simp; (try with_reducible rfl)
        try simp only [Act.put, List.setIfInBounds_toArray, List.set_cons_zero, List.set_cons_succ]
        refine rg_take 3 (some 52) (v := ?v4) rfl rfl (by kernel_rfl) (by kernel_rfl) (by kernel_rfl) (fun _ _ _ h => h) (by rfl) ?hy4 (by assumption) ?_
        case hy4 => intro W hSW; (try dsimp only at hSW); go_simp; (try with_reducible rfl)
        try simp only [Act.put, List.setIfInBounds_toArray, List.set_cons_zero, List.set_cons_succ]
        refine rg_take 4 (some 53) (v := ?v5) rfl rfl (by kernel_rfl) (by kernel_rfl) (by kernel_rfl) (fun _ _ _ h => h) (by rfl) ?hy5 (by assumption) ?_
        case hy5 => intro W hSW; (try dsimp only at hSW); go_simp; (try with_reducible rfl)
        try simp only [Act.put, List.setIfInBounds_toArray, List.set_cons_zero, List.set_cons_succ]
        refine rg_take 5 (some 54) (v := ?v6) rfl rfl (by kernel_rfl) (by kernel_rfl) (by kernel_rfl) (fun _ _ _ h => h) (by rfl) ?hy6 (by assumption) ?_
        case hy6 => intro W hSW; (try dsimp only at hSW); go_simp; (try with_reducible rfl)
        try simp only [Act.put, List.setIfInBounds_toArray, List.set_cons_zero, List.set_cons_succ]
        refine rg_take 6 (some 55) (v := ?v7) rfl rfl (by kernel_rfl) (by kernel_rfl) (by kernel_rfl) (fun _ _ _ h => h) (by rfl) ?hy7 (by assumption) ?_
        case hy7 => intro W hSW; (try dsimp only at hSW); go_simp; (try with_reducible rfl)
        try simp only [Act.put, List.setIfInBounds_toArray, List.set_cons_zero, List.set_cons_succ]
        refine rg_take 7 (some 56) (v := ?v8) rfl rfl (by kernel_rfl) (by kernel_rfl) (by kernel_rfl) (fun _ _ _ h => h) (by rfl) ?hy8 (by assumption) ?_
        case hy8 => intro W hSW; (try dsimp only at hSW); go_simp; (try with_reducible rfl)
        try simp only [Act.put, List.setIfInBounds_toArray, List.set_cons_zero, List.set_cons_succ]
        refine rg_take 8 (some 57) (v := ?v9) rfl rfl (by kernel_rfl) (by kernel_rfl) (by kernel_rfl) (fun _ _ _ h => h) (by rfl) ?hy9 (by assumption) ?_
        case hy9 => intro W hSW; (try dsimp only at hSW); go_simp; (try with_reducible rfl)
        try simp only [Act.put, List.setIfInBounds_toArray, List.set_cons_zero, List.set_cons_succ]
        refine rg_take 9 (some 58) (v := ?v10) rfl rfl (by kernel_rfl) (by kernel_rfl) (by kernel_rfl) (fun _ _ _ h => h) (by rfl) ?hy10 (by assumption) ?_
        case hy10 => intro W hSW; (try dsimp only at hSW); go_simp; (try with_reducible rfl)
        try simp only [Act.put, List.setIfInBounds_toArray, List.set_cons_zero, List.set_cons_succ]
        refine rg_take 10 (some 59) (v := ?v11) rfl rfl (by kernel_rfl) (by kernel_rfl) (by kernel_rfl) (fun _ _ _ h => h) (by rfl) ?hy11 (by assumption) ?_
        case hy11 => intro W hSW; (try dsimp only at hSW); go_simp; (try with_reducible rfl)
        try simp only [Act.put, List.setIfInBounds_toArray, List.set_cons_zero, List.set_cons_succ]
        refine rg_take 11 (some 60) (v := ?v12) rfl rfl (by kernel_rfl) (by kernel_rfl) (by kernel_rfl) (fun _ _ _ h => h) (by rfl) ?hy12 (by assumption) ?_
        case hy12 => intro W hSW; (try dsimp only at hSW); go_simp; (try with_reducible rfl)
        try simp only [Act.put, List.setIfInBounds_toArray, List.set_cons_zero, List.set_cons_succ]
        refine rg_take 12 (some 61) (v := ?v13) rfl rfl (by kernel_rfl) (by kernel_rfl) (by kernel_rfl) (fun _ _ _ h => h) (by rfl) ?hy13 (by assumption) ?_
        case hy13 => intro W hSW; (try dsimp only at hSW); go_simp; (try with_reducible rfl)
        try simp only [Act.put, List.setIfInBounds_toArray, List.set_cons_zero, List.set_cons_succ]
        refine rg_take 13 (some 62) (v := ?v14) rfl rfl (by kernel_rfl) (by kernel_rfl) (by kernel_rfl) (fun _ _ _ h => h) (by rfl) ?hy14 (by assumption) ?_
        case hy14 => intro W hSW; (try dsimp only at hSW); go_simp; (try with_reducible rfl)
        try simp only [Act.put, List.setIfInBounds_toArray, List.set_cons_zero, List.set_cons_succ]
        refine rg_take 14 (some 63) (v := ?v15) rfl rfl (by kernel_rfl) (by kernel_rfl) (by kernel_rfl) (fun _ _ _ h => h) (by rfl) ?hy15 (by assumption) ?_
        case hy15 => intro W hSW; (try dsimp only at hSW); go_simp; (try with_reducible rfl)
        try simp only [Act.put, List.setIfInBounds_toArray, List.set_cons_zero, List.set_cons_succ]
        refine rg_one 15 rfl (by kernel_rfl) (by rfl) (fun K hK => ?_)
        go_simp
        (go_at_call 42; refine kA'.mono ?_; rintro e w1 ⟨rfl, hb1, hm1'⟩)
        refine hK.out _ _ ⟨hFC.out _ (hb0.trans hb1 fun _ _ h => h), hb0.trans hb1 fun _ _ h => h⟩ (fun hHeld15 => ?_)
        clear hK K hHeld
        try simp only [Act.put, List.setIfInBounds_toArray, List.set_cons_zero, List.set_cons_succ]
        refine rg_take 16 (some 65) (v := ?v16) rfl rfl (by kernel_rfl) (by kernel_rfl) (by kernel_rfl) (fun _ _ _ h => h) (by rfl) ?hy16 (by assumption) ?_
        case hy16 => intro W hSW; (try dsimp only at hSW); go_simp; (try with_reducible rfl)
        try simp only [Act.put, List.setIfInBounds_toArray, List.set_cons_zero, List.set_cons_succ]
        refine rg_skip 17 (some 66) rfl rfl (by kernel_rfl) (by kernel_rfl) (by kernel_rfl) (fun _ _ _ h => h) (by rfl) (by assumption) ?_
        try simp only [Act.put, List.setIfInBounds_toArray, List.set_cons_zero, List.set_cons_succ]
        refine rg_skip 18 (some 67) rfl rfl (by kernel_rfl) (by kernel_rfl) (by kernel_rfl) (fun _ _ _ h => h) (by rfl) (by assumption) ?_
        try simp only [Act.put, List.setIfInBounds_toArray, List.set_cons_zero, List.set_cons_succ]
        refine rg_skip 19 (some 68) rfl rfl (by kernel_rfl) (by kernel_rfl) (by kernel_rfl) (fun _ _ _ h => h) (by rfl) (by assumption) ?_
        try simp only [Act.put, List.setIfInBounds_toArray, List.set_cons_zero, List.set_cons_succ]
        refine rg_skip 20 (some 69) rfl rfl (by kernel_rfl) (by kernel_rfl) (by kernel_rfl) (fun _ _ _ h => h) (by rfl) (by assumption) ?_
        try simp only [Act.put, List.setIfInBounds_toArray, List.set_cons_zero, List.set_cons_succ]
        refine rg_skip 21 (some 70) rfl rfl (by kernel_rfl) (by kernel_rfl) (by kernel_rfl) (fun _ _ _ h => h) (by rfl) (by assumption) ?_
        try simp only [Act.put, List.setIfInBounds_toArray, List.set_cons_zero, List.set_cons_succ]
        refine rg_skip 22 (some 71) rfl rfl (by kernel_rfl) (by kernel_rfl) (by kernel_rfl) (fun _ _ _ h => h) (by rfl) (by assumption) ?_
        try simp only [Act.put, List.setIfInBounds_toArray, List.set_cons_zero, List.set_cons_succ]
        refine rg_skip 23 (some 72) rfl rfl (by kernel_rfl) (by kernel_rfl) (by kernel_rfl) (fun _ _ _ h => h) (by rfl) (by assumption) ?_
        try simp only [Act.put, List.setIfInBounds_toArray, List.set_cons_zero, List.set_cons_succ]
        refine rg_skip 24 (some 73) rfl rfl (by kernel_rfl) (by kernel_rfl) (by kernel_rfl) (fun _ _ _ h => h) (by rfl) (by assumption) ?_
        try simp only [Act.put, List.setIfInBounds_toArray, List.set_cons_zero, List.set_cons_succ]
        refine rg_skip 25 (some 74) rfl rfl (by kernel_rfl) (by kernel_rfl) (by kernel_rfl) (fun _ _ _ h => h) (by rfl) (by assumption) ?_
        try simp only [Act.put, List.setIfInBounds_toArray, List.set_cons_zero, List.set_cons_succ]
        refine rg_skip 26 (some 75) rfl rfl (by kernel_rfl) (by kernel_rfl) (by kernel_rfl) (fun _ _ _ h => h) (by rfl) (by assumption) ?_
        try simp only [Act.put, List.setIfInBounds_toArray, List.set_cons_zero, List.set_cons_succ]
        refine rg_take 27 (some 76) (v := ?v17) rfl rfl (by kernel_rfl) (by kernel_rfl) (by kernel_rfl) (fun _ _ _ h => h) (by rfl) ?hy17 (by assumption) ?_
        case hy17 => intro W hSW; (try dsimp only at hSW); go_simp; (try with_reducible rfl)
        try simp only [Act.put, List.setIfInBounds_toArray, List.set_cons_zero, List.set_cons_succ]
        refine rg_take 28 (some 77) (v := ?v18) rfl rfl (by kernel_rfl) (by kernel_rfl) (by kernel_rfl) (fun _ _ _ h => h) (by rfl) ?hy18 (by assumption) ?_
        case hy18 => intro W hSW; (try dsimp only at hSW); go_simp; (try with_reducible rfl)
        try simp only [Act.put, List.setIfInBounds_toArray, List.set_cons_zero, List.set_cons_succ]
        refine rg_skip 29 (some 78) rfl rfl (by kernel_rfl) (by kernel_rfl) (by kernel_rfl) (fun _ _ _ h => h) (by rfl) (by assumption) ?_
        try simp only [Act.put, List.setIfInBounds_toArray, List.set_cons_zero, List.set_cons_succ]
        refine rg_skip 30 (some 79) rfl rfl (by kernel_rfl) (by kernel_rfl) (by kernel_rfl) (fun _ _ _ h => h) (by rfl) (by assumption) ?_
        try simp only [Act.put, List.setIfInBounds_toArray, List.set_cons_zero, List.set_cons_succ]
        refine rg_skip 31 (some 80) rfl rfl (by kernel_rfl) (by kernel_rfl) (by kernel_rfl) (fun _ _ _ h => h) (by rfl) (by assumption) ?_
        try simp only [Act.put, List.setIfInBounds_toArray, List.set_cons_zero, List.set_cons_succ]
        refine rg_skip 32 (some 81) rfl rfl (by kernel_rfl) (by kernel_rfl) (by kernel_rfl) (fun _ _ _ h => h) (by rfl) (by assumption) ?_
        try simp only [Act.put, List.setIfInBounds_toArray, List.set_cons_zero, List.set_cons_succ]
        refine rg_skip 33 (some 82) rfl rfl (by kernel_rfl) (by kernel_rfl) (by kernel_rfl) (fun _ _ _ h => h) (by rfl) (by assumption) ?_
        try simp only [Act.put, List.setIfInBounds_toArray, List.set_cons_zero, List.set_cons_succ]
        refine rg_skip 34 (some 83) rfl rfl (by kernel_rfl) (by kernel_rfl) (by kernel_rfl) (fun _ _ _ h => h) (by rfl) (by assumption) ?_
        try simp only [Act.put, List.setIfInBounds_toArray, List.set_cons_zero, List.set_cons_succ]
        refine rg_skip 35 (some 84) rfl rfl (by kernel_rfl) (by kernel_rfl) (by kernel_rfl) (fun _ _ _ h => h) (by rfl) (by assumption) ?_
        try simp only [Act.put, List.setIfInBounds_toArray, List.set_cons_zero, List.set_cons_succ]
        refine rg_skip 36 (some 85) rfl rfl (by kernel_rfl) (by kernel_rfl) (by kernel_rfl) (fun _ _ _ h => h) (by rfl) (by assumption) ?_
        try simp only [Act.put, List.setIfInBounds_toArray, List.set_cons_zero, List.set_cons_succ]
        refine rg_skip 37 (some 86) rfl rfl (by kernel_rfl) (by kernel_rfl) (by kernel_rfl) (fun _ _ _ h => h) (by rfl) (by assumption) ?_
        try simp only [Act.put, List.setIfInBounds_toArray, List.set_cons_zero, List.set_cons_succ]
        refine rg_skip 38 (some 87) rfl rfl (by kernel_rfl) (by kernel_rfl) (by kernel_rfl) (fun _ _ _ h => h) (by rfl) (by assumption) ?_
        try simp only [Act.put, List.setIfInBounds_toArray, List.set_cons_zero, List.set_cons_succ]
        refine rg_take 39 (some 88) (v := ?v19) rfl rfl (by kernel_rfl) (by kernel_rfl) (by kernel_rfl) (fun _ _ _ h => h) (by rfl) ?hy19 (by assumption) ?_
        case hy19 => intro W hSW; (try dsimp only at hSW); go_simp; (try with_reducible rfl)
        try simp only [Act.put, List.setIfInBounds_toArray, List.set_cons_zero, List.set_cons_succ]
        refine rg_take 40 (some 89) (v := ?v20) rfl rfl (by kernel_rfl) (by kernel_rfl) (by kernel_rfl) (fun _ _ _ h => h) (by rfl) ?hy20 (by assumption) ?_
        case hy20 => intro W hSW; (try dsimp only at hSW); go_simp; (try with_reducible rfl)
        try simp only [Act.put, List.setIfInBounds_toArray, List.set_cons_zero, List.set_cons_succ]
        refine rg_take 41 (some 6) (v := ?v21) rfl rfl (by kernel_rfl) (by kernel_rfl) (by kernel_rfl) (fun _ _ _ h => h) (by rfl) ?hy21 (by assumption) ?_
        case hy21 => intro W hSW; (try dsimp only at hSW); go_simp; (try with_reducible rfl)
        try simp only [Act.put, List.setIfInBounds_toArray, List.set_cons_zero, List.set_cons_succ]
        refine wpAnyH_done (by kernel_rfl) ?_ _
        go_wp2_with fail
        go_ret
        exact hfin.out _ (hb0.trans hb1 fun _ _ h => h)
      | some m1 =>
        rw [h1] at kA
        have hk1 := hm1 m1 h1
        rw [Option.bind_some]
        cases h2 : mtR r r' m1 with
        | none =>
          have hfin := Lib.hid fun (W : World) (hB : Bar (fun k => k = b1 ∨ k = b2) w W) => (show MrPost gm b1 b2 (n + (a.sz + b.sz + 1)) (Option.bind none (mtT b b')) w (.returned (.bool false)) W from ⟨rfl, hB, fun m' h' => by cases h'⟩)
          go_enter Tryd.func42, Tryd.ntmps42
          go_wp2_with fail
          go_quiet (fail)
          go_wp2_with fail
          have hb0 : Bar (fun k => k = b1 ∨ k = b2) w (w.drewN nq).drew := Bar.of_below ((below_drewN (Below.refl _ _) _).drew)
          have hw0 : Below w.heap.size w (w.drewN nq).drew := (below_drewN (Below.refl _ _) _).drew
          have kA' := kA.out _ hw0
          refine wp_region_held_drew (S := fun W => (W.cell? ⟨gg, 0, none⟩ = some (.int .i64 3) ∧ W.cell? ⟨gg, 2, none⟩ = some (.pointer (some ⟨pa, 0, none⟩)) ∧ W.cell? ⟨gg, 3, none⟩ = some (.pointer (some ⟨pb, 0, none⟩)) ∧ W.cell? ⟨gg, 4, none⟩ = some (.int .i64 r.a) ∧ W.cell? ⟨gg, 5, none⟩ = some (.int .i64 r.b) ∧ W.cell? ⟨gg, 6, none⟩ = some (.int .i64 r.c) ∧ W.cell? ⟨gg, 7, none⟩ = some (.int .i64 r.d) ∧ W.cell? ⟨gg, 8, none⟩ = some (.int .i64 r.t) ∧ W.cell? ⟨gs, 0, none⟩ = some (.int .i64 3) ∧ W.cell? ⟨gs, 2, none⟩ = some (.pointer (some ⟨qa, 0, none⟩)) ∧ W.cell? ⟨gs, 3, none⟩ = some (.pointer (some ⟨qb, 0, none⟩)) ∧ W.cell? ⟨gs, 4, none⟩ = some (.int .i64 r'.a) ∧ W.cell? ⟨gs, 5, none⟩ = some (.int .i64 r'.b) ∧ W.cell? ⟨gs, 6, none⟩ = some (.int .i64 r'.c) ∧ W.cell? ⟨gs, 7, none⟩ = some (.int .i64 r'.d) ∧ W.cell? ⟨gs, 8, none⟩ = some (.int .i64 r'.t) ∧ gg < W.heap.size ∧ gs < W.heap.size) ∧ Bar (fun k => k = b1 ∨ k = b2) w W) (by kernel_rfl) ⟨hFC.out _ hb0, hb0⟩ (fun hHeld => ?_)
          clear c0 c1 c2 c3 c4 c5 c6 c7 d0 d1 d2 d3 d4 d5 d6 d7
          generalize (w.drewN nq).drew = w0 at hHeld hb0 hw0 kA' ⊢
          refine rg_take 0 (some 49) (v := ?v22) rfl rfl (by kernel_rfl) (by kernel_rfl) (by kernel_rfl) (fun _ _ _ h => h) (by rfl) ?hy22 (by assumption) ?_
          case hy22 => intro W hSW; (try dsimp only at hSW); go_simp; (try with_reducible rfl)
          try simp only [Act.put, List.setIfInBounds_toArray, List.set_cons_zero, List.set_cons_succ]
          refine rg_take 1 (some 50) (v := ?v23) rfl rfl (by kernel_rfl) (by kernel_rfl) (by kernel_rfl) (fun _ _ _ h => h) (by rfl) ?hy23 (by assumption) ?_
          case hy23 => intro W hSW; (try dsimp only at hSW); go_simp; (try with_reducible rfl)
          try simp only [Act.put, List.setIfInBounds_toArray, List.set_cons_zero, List.set_cons_succ]
          refine rg_take 2 (some 51) (v := ?v24) rfl rfl (by kernel_rfl) (by kernel_rfl) (by kernel_rfl) (fun _ _ _ h => h) (by rfl) ?hy24 (by assumption) ?_
          case hy24 => intro W hSW; (try dsimp only at hSW); go_simp; (try with_reducible rfl)
          try simp only [Act.put, List.setIfInBounds_toArray, List.set_cons_zero, List.set_cons_succ]
          refine rg_take 3 (some 52) (v := ?v25) rfl rfl (by kernel_rfl) (by kernel_rfl) (by kernel_rfl) (fun _ _ _ h => h) (by rfl) ?hy25 (by assumption) ?_
          case hy25 => intro W hSW; (try dsimp only at hSW); go_simp; (try with_reducible rfl)
          try simp only [Act.put, List.setIfInBounds_toArray, List.set_cons_zero, List.set_cons_succ]
          refine rg_take 4 (some 53) (v := ?v26) rfl rfl (by kernel_rfl) (by kernel_rfl) (by kernel_rfl) (fun _ _ _ h => h) (by rfl) ?hy26 (by assumption) ?_
          case hy26 => intro W hSW; (try dsimp only at hSW); go_simp; (try with_reducible rfl)
          try simp only [Act.put, List.setIfInBounds_toArray, List.set_cons_zero, List.set_cons_succ]
          refine rg_take 5 (some 54) (v := ?v27) rfl rfl (by kernel_rfl) (by kernel_rfl) (by kernel_rfl) (fun _ _ _ h => h) (by rfl) ?hy27 (by assumption) ?_
          case hy27 => intro W hSW; (try dsimp only at hSW); go_simp; (try with_reducible rfl)
          try simp only [Act.put, List.setIfInBounds_toArray, List.set_cons_zero, List.set_cons_succ]
          refine rg_take 6 (some 55) (v := ?v28) rfl rfl (by kernel_rfl) (by kernel_rfl) (by kernel_rfl) (fun _ _ _ h => h) (by rfl) ?hy28 (by assumption) ?_
          case hy28 => intro W hSW; (try dsimp only at hSW); go_simp; (try with_reducible rfl)
          try simp only [Act.put, List.setIfInBounds_toArray, List.set_cons_zero, List.set_cons_succ]
          refine rg_take 7 (some 56) (v := ?v29) rfl rfl (by kernel_rfl) (by kernel_rfl) (by kernel_rfl) (fun _ _ _ h => h) (by rfl) ?hy29 (by assumption) ?_
          case hy29 => intro W hSW; (try dsimp only at hSW); go_simp; (try with_reducible rfl)
          try simp only [Act.put, List.setIfInBounds_toArray, List.set_cons_zero, List.set_cons_succ]
          refine rg_take 8 (some 57) (v := ?v30) rfl rfl (by kernel_rfl) (by kernel_rfl) (by kernel_rfl) (fun _ _ _ h => h) (by rfl) ?hy30 (by assumption) ?_
          case hy30 => intro W hSW; (try dsimp only at hSW); go_simp; (try with_reducible rfl)
          try simp only [Act.put, List.setIfInBounds_toArray, List.set_cons_zero, List.set_cons_succ]
          refine rg_take 9 (some 58) (v := ?v31) rfl rfl (by kernel_rfl) (by kernel_rfl) (by kernel_rfl) (fun _ _ _ h => h) (by rfl) ?hy31 (by assumption) ?_
          case hy31 => intro W hSW; (try dsimp only at hSW); go_simp; (try with_reducible rfl)
          try simp only [Act.put, List.setIfInBounds_toArray, List.set_cons_zero, List.set_cons_succ]
          refine rg_take 10 (some 59) (v := ?v32) rfl rfl (by kernel_rfl) (by kernel_rfl) (by kernel_rfl) (fun _ _ _ h => h) (by rfl) ?hy32 (by assumption) ?_
          case hy32 => intro W hSW; (try dsimp only at hSW); go_simp; (try with_reducible rfl)
          try simp only [Act.put, List.setIfInBounds_toArray, List.set_cons_zero, List.set_cons_succ]
          refine rg_take 11 (some 60) (v := ?v33) rfl rfl (by kernel_rfl) (by kernel_rfl) (by kernel_rfl) (fun _ _ _ h => h) (by rfl) ?hy33 (by assumption) ?_
          case hy33 => intro W hSW; (try dsimp only at hSW); go_simp; (try with_reducible rfl)
          try simp only [Act.put, List.setIfInBounds_toArray, List.set_cons_zero, List.set_cons_succ]
          refine rg_take 12 (some 61) (v := ?v34) rfl rfl (by kernel_rfl) (by kernel_rfl) (by kernel_rfl) (fun _ _ _ h => h) (by rfl) ?hy34 (by assumption) ?_
          case hy34 => intro W hSW; (try dsimp only at hSW); go_simp; (try with_reducible rfl)
          try simp only [Act.put, List.setIfInBounds_toArray, List.set_cons_zero, List.set_cons_succ]
          refine rg_take 13 (some 62) (v := ?v35) rfl rfl (by kernel_rfl) (by kernel_rfl) (by kernel_rfl) (fun _ _ _ h => h) (by rfl) ?hy35 (by assumption) ?_
          case hy35 => intro W hSW; (try dsimp only at hSW); go_simp; (try with_reducible rfl)
          try simp only [Act.put, List.setIfInBounds_toArray, List.set_cons_zero, List.set_cons_succ]
          refine rg_take 14 (some 63) (v := ?v36) rfl rfl (by kernel_rfl) (by kernel_rfl) (by kernel_rfl) (fun _ _ _ h => h) (by rfl) ?hy36 (by assumption) ?_
          case hy36 => intro W hSW; (try dsimp only at hSW); go_simp; (try with_reducible rfl)
          try simp only [Act.put, List.setIfInBounds_toArray, List.set_cons_zero, List.set_cons_succ]
          refine rg_one 15 rfl (by kernel_rfl) (by rfl) (fun K hK => ?_)
          go_simp
          (go_at_call 42; refine kA'.mono ?_; rintro e w1 ⟨rfl, hb1, hm1'⟩)
          refine hK.out _ _ ⟨hFC.out _ (hb0.trans hb1 fun _ _ h => h), hb0.trans hb1 fun _ _ h => h⟩ (fun hHeld15 => ?_)
          clear hK K hHeld
          try simp only [Act.put, List.setIfInBounds_toArray, List.set_cons_zero, List.set_cons_succ]
          have hB1 : Bar (fun k => k = b1 ∨ k = b2) w w1 := hb0.trans hb1 fun _ _ h => h
          have kR' := kR.out _ m1 hB1 (hm1' m1 rfl)
          rw [h2] at kR'
          refine rg_take 16 (some 65) (v := ?v37) rfl rfl (by kernel_rfl) (by kernel_rfl) (by kernel_rfl) (fun _ _ _ h => h) (by rfl) ?hy37 (by assumption) ?_
          case hy37 => intro W hSW; (try dsimp only at hSW); go_simp; (try with_reducible rfl)
          try simp only [Act.put, List.setIfInBounds_toArray, List.set_cons_zero, List.set_cons_succ]
          refine rg_take 17 (some 66) (v := ?v38) rfl rfl (by kernel_rfl) (by kernel_rfl) (by kernel_rfl) (fun _ _ _ h => h) (by rfl) ?hy38 (by assumption) ?_
          case hy38 => intro W hSW; (try dsimp only at hSW); go_simp; (try with_reducible rfl)
          try simp only [Act.put, List.setIfInBounds_toArray, List.set_cons_zero, List.set_cons_succ]
          refine rg_take 18 (some 67) (v := ?v39) rfl rfl (by kernel_rfl) (by kernel_rfl) (by kernel_rfl) (fun _ _ _ h => h) (by rfl) ?hy39 (by assumption) ?_
          case hy39 => intro W hSW; (try dsimp only at hSW); go_simp; (try with_reducible rfl)
          try simp only [Act.put, List.setIfInBounds_toArray, List.set_cons_zero, List.set_cons_succ]
          refine rg_take 19 (some 68) (v := ?v40) rfl rfl (by kernel_rfl) (by kernel_rfl) (by kernel_rfl) (fun _ _ _ h => h) (by rfl) ?hy40 (by assumption) ?_
          case hy40 => intro W hSW; (try dsimp only at hSW); go_simp; (try with_reducible rfl)
          try simp only [Act.put, List.setIfInBounds_toArray, List.set_cons_zero, List.set_cons_succ]
          refine rg_take 20 (some 69) (v := ?v41) rfl rfl (by kernel_rfl) (by kernel_rfl) (by kernel_rfl) (fun _ _ _ h => h) (by rfl) ?hy41 (by assumption) ?_
          case hy41 => intro W hSW; (try dsimp only at hSW); go_simp; (try with_reducible rfl)
          try simp only [Act.put, List.setIfInBounds_toArray, List.set_cons_zero, List.set_cons_succ]
          refine rg_take 21 (some 70) (v := ?v42) rfl rfl (by kernel_rfl) (by kernel_rfl) (by kernel_rfl) (fun _ _ _ h => h) (by rfl) ?hy42 (by assumption) ?_
          case hy42 => intro W hSW; (try dsimp only at hSW); go_simp; (try with_reducible rfl)
          try simp only [Act.put, List.setIfInBounds_toArray, List.set_cons_zero, List.set_cons_succ]
          refine rg_take 22 (some 71) (v := ?v43) rfl rfl (by kernel_rfl) (by kernel_rfl) (by kernel_rfl) (fun _ _ _ h => h) (by rfl) ?hy43 (by assumption) ?_
          case hy43 => intro W hSW; (try dsimp only at hSW); go_simp; (try with_reducible rfl)
          try simp only [Act.put, List.setIfInBounds_toArray, List.set_cons_zero, List.set_cons_succ]
          refine rg_take 23 (some 72) (v := ?v44) rfl rfl (by kernel_rfl) (by kernel_rfl) (by kernel_rfl) (fun _ _ _ h => h) (by rfl) ?hy44 (by assumption) ?_
          case hy44 => intro W hSW; (try dsimp only at hSW); go_simp; (try with_reducible rfl)
          try simp only [Act.put, List.setIfInBounds_toArray, List.set_cons_zero, List.set_cons_succ]
          refine rg_take 24 (some 73) (v := ?v45) rfl rfl (by kernel_rfl) (by kernel_rfl) (by kernel_rfl) (fun _ _ _ h => h) (by rfl) ?hy45 (by assumption) ?_
          case hy45 => intro W hSW; (try dsimp only at hSW); go_simp; (try with_reducible rfl)
          try simp only [Act.put, List.setIfInBounds_toArray, List.set_cons_zero, List.set_cons_succ]
          refine rg_take 25 (some 74) (v := ?v46) rfl rfl (by kernel_rfl) (by kernel_rfl) (by kernel_rfl) (fun _ _ _ h => h) (by rfl) ?hy46 (by assumption) ?_
          case hy46 => intro W hSW; (try dsimp only at hSW); go_simp; (try with_reducible rfl)
          try simp only [Act.put, List.setIfInBounds_toArray, List.set_cons_zero, List.set_cons_succ]
          refine rg_one 26 rfl (by kernel_rfl) (by rfl) (fun K hK => ?_)
          go_simp
          (go_at_call 73; refine kR'.mono ?_; rintro e w2 ⟨rfl, hb2, hm2'⟩)
          refine hK.out _ _ ⟨hFC.out _ (hB1.trans hb2 fun _ _ h => h), hB1.trans hb2 fun _ _ h => h⟩ (fun hHeld26 => ?_)
          clear hK K hHeld15
          try simp only [Act.put, List.setIfInBounds_toArray, List.set_cons_zero, List.set_cons_succ]
          have hB2 : Bar (fun k => k = b1 ∨ k = b2) w w2 := hB1.trans hb2 fun _ _ h => h
          refine rg_take 27 (some 76) (v := ?v47) rfl rfl (by kernel_rfl) (by kernel_rfl) (by kernel_rfl) (fun _ _ _ h => h) (by rfl) ?hy47 (by assumption) ?_
          case hy47 => intro W hSW; (try dsimp only at hSW); go_simp; (try with_reducible rfl)
          try simp only [Act.put, List.setIfInBounds_toArray, List.set_cons_zero, List.set_cons_succ]
          refine rg_take 28 (some 77) (v := ?v48) rfl rfl (by kernel_rfl) (by kernel_rfl) (by kernel_rfl) (fun _ _ _ h => h) (by rfl) ?hy48 (by assumption) ?_
          case hy48 => intro W hSW; (try dsimp only at hSW); go_simp; (try with_reducible rfl)
          try simp only [Act.put, List.setIfInBounds_toArray, List.set_cons_zero, List.set_cons_succ]
          refine rg_skip 29 (some 78) rfl rfl (by kernel_rfl) (by kernel_rfl) (by kernel_rfl) (fun _ _ _ h => h) (by rfl) (by assumption) ?_
          try simp only [Act.put, List.setIfInBounds_toArray, List.set_cons_zero, List.set_cons_succ]
          refine rg_skip 30 (some 79) rfl rfl (by kernel_rfl) (by kernel_rfl) (by kernel_rfl) (fun _ _ _ h => h) (by rfl) (by assumption) ?_
          try simp only [Act.put, List.setIfInBounds_toArray, List.set_cons_zero, List.set_cons_succ]
          refine rg_skip 31 (some 80) rfl rfl (by kernel_rfl) (by kernel_rfl) (by kernel_rfl) (fun _ _ _ h => h) (by rfl) (by assumption) ?_
          try simp only [Act.put, List.setIfInBounds_toArray, List.set_cons_zero, List.set_cons_succ]
          refine rg_skip 32 (some 81) rfl rfl (by kernel_rfl) (by kernel_rfl) (by kernel_rfl) (fun _ _ _ h => h) (by rfl) (by assumption) ?_
          try simp only [Act.put, List.setIfInBounds_toArray, List.set_cons_zero, List.set_cons_succ]
          refine rg_skip 33 (some 82) rfl rfl (by kernel_rfl) (by kernel_rfl) (by kernel_rfl) (fun _ _ _ h => h) (by rfl) (by assumption) ?_
          try simp only [Act.put, List.setIfInBounds_toArray, List.set_cons_zero, List.set_cons_succ]
          refine rg_skip 34 (some 83) rfl rfl (by kernel_rfl) (by kernel_rfl) (by kernel_rfl) (fun _ _ _ h => h) (by rfl) (by assumption) ?_
          try simp only [Act.put, List.setIfInBounds_toArray, List.set_cons_zero, List.set_cons_succ]
          refine rg_skip 35 (some 84) rfl rfl (by kernel_rfl) (by kernel_rfl) (by kernel_rfl) (fun _ _ _ h => h) (by rfl) (by assumption) ?_
          try simp only [Act.put, List.setIfInBounds_toArray, List.set_cons_zero, List.set_cons_succ]
          refine rg_skip 36 (some 85) rfl rfl (by kernel_rfl) (by kernel_rfl) (by kernel_rfl) (fun _ _ _ h => h) (by rfl) (by assumption) ?_
          try simp only [Act.put, List.setIfInBounds_toArray, List.set_cons_zero, List.set_cons_succ]
          refine rg_skip 37 (some 86) rfl rfl (by kernel_rfl) (by kernel_rfl) (by kernel_rfl) (fun _ _ _ h => h) (by rfl) (by assumption) ?_
          try simp only [Act.put, List.setIfInBounds_toArray, List.set_cons_zero, List.set_cons_succ]
          refine rg_skip 38 (some 87) rfl rfl (by kernel_rfl) (by kernel_rfl) (by kernel_rfl) (fun _ _ _ h => h) (by rfl) (by assumption) ?_
          try simp only [Act.put, List.setIfInBounds_toArray, List.set_cons_zero, List.set_cons_succ]
          refine rg_take 39 (some 88) (v := ?v49) rfl rfl (by kernel_rfl) (by kernel_rfl) (by kernel_rfl) (fun _ _ _ h => h) (by rfl) ?hy49 (by assumption) ?_
          case hy49 => intro W hSW; (try dsimp only at hSW); go_simp; (try with_reducible rfl)
          try simp only [Act.put, List.setIfInBounds_toArray, List.set_cons_zero, List.set_cons_succ]
          refine rg_take 40 (some 89) (v := ?v50) rfl rfl (by kernel_rfl) (by kernel_rfl) (by kernel_rfl) (fun _ _ _ h => h) (by rfl) ?hy50 (by assumption) ?_
          case hy50 => intro W hSW; (try dsimp only at hSW); go_simp; (try with_reducible rfl)
          try simp only [Act.put, List.setIfInBounds_toArray, List.set_cons_zero, List.set_cons_succ]
          refine rg_take 41 (some 6) (v := ?v51) rfl rfl (by kernel_rfl) (by kernel_rfl) (by kernel_rfl) (fun _ _ _ h => h) (by rfl) ?hy51 (by assumption) ?_
          case hy51 => intro W hSW; (try dsimp only at hSW); go_simp; (try with_reducible rfl)
          try simp only [Act.put, List.setIfInBounds_toArray, List.set_cons_zero, List.set_cons_succ]
          refine wpAnyH_done (by kernel_rfl) ?_ _
          go_wp2_with fail
          go_ret
          exact hfin.out _ hB2
        | some m2 =>
          have hk2 : MsOk m2 := by intro u T hT; rw [mtR_s h2] at hT; exact hk1 u T hT
          rw [Option.bind_some]
          obtain ⟨R, hR⟩ : ∃ R, mtT b b' m2 = R := ⟨_, rfl⟩
          have hfin := Lib.hid fun (W W' : World) (hB : Bar (fun k => k = b1 ∨ k = b2) w W) (hB' : Bar (fun k => k = b1 ∨ k = b2) W W') (hM : ∀ m', R = some m' → MtAt W' gm b1 b2 (n + a.sz + 1 + b.sz) m') => (show MrPost gm b1 b2 (n + (a.sz + b.sz + 1)) R w (.returned (.bool R.isSome)) W' from ⟨rfl, hB.trans hB' fun _ _ h => h, fun m' h' => (hM m' h').mono (by omega)⟩)
          have hRs : Hid (∀ x, R.isSome = x → True) := Lib.hid fun _ _ => trivial
          rw [hR]
          go_enter Tryd.func42, Tryd.ntmps42
          go_wp2_with fail
          go_quiet (fail)
          go_wp2_with fail
          have hb0 : Bar (fun k => k = b1 ∨ k = b2) w (w.drewN nq).drew := Bar.of_below ((below_drewN (Below.refl _ _) _).drew)
          have hw0 : Below w.heap.size w (w.drewN nq).drew := (below_drewN (Below.refl _ _) _).drew
          have kA' := kA.out _ hw0
          refine wp_region_held_drew (S := fun W => (W.cell? ⟨gg, 0, none⟩ = some (.int .i64 3) ∧ W.cell? ⟨gg, 2, none⟩ = some (.pointer (some ⟨pa, 0, none⟩)) ∧ W.cell? ⟨gg, 3, none⟩ = some (.pointer (some ⟨pb, 0, none⟩)) ∧ W.cell? ⟨gg, 4, none⟩ = some (.int .i64 r.a) ∧ W.cell? ⟨gg, 5, none⟩ = some (.int .i64 r.b) ∧ W.cell? ⟨gg, 6, none⟩ = some (.int .i64 r.c) ∧ W.cell? ⟨gg, 7, none⟩ = some (.int .i64 r.d) ∧ W.cell? ⟨gg, 8, none⟩ = some (.int .i64 r.t) ∧ W.cell? ⟨gs, 0, none⟩ = some (.int .i64 3) ∧ W.cell? ⟨gs, 2, none⟩ = some (.pointer (some ⟨qa, 0, none⟩)) ∧ W.cell? ⟨gs, 3, none⟩ = some (.pointer (some ⟨qb, 0, none⟩)) ∧ W.cell? ⟨gs, 4, none⟩ = some (.int .i64 r'.a) ∧ W.cell? ⟨gs, 5, none⟩ = some (.int .i64 r'.b) ∧ W.cell? ⟨gs, 6, none⟩ = some (.int .i64 r'.c) ∧ W.cell? ⟨gs, 7, none⟩ = some (.int .i64 r'.d) ∧ W.cell? ⟨gs, 8, none⟩ = some (.int .i64 r'.t) ∧ gg < W.heap.size ∧ gs < W.heap.size) ∧ Bar (fun k => k = b1 ∨ k = b2) w W) (by kernel_rfl) ⟨hFC.out _ hb0, hb0⟩ (fun hHeld => ?_)
          clear c0 c1 c2 c3 c4 c5 c6 c7 d0 d1 d2 d3 d4 d5 d6 d7
          generalize (w.drewN nq).drew = w0 at hHeld hb0 hw0 kA' ⊢
          refine rg_take 0 (some 49) (v := ?v52) rfl rfl (by kernel_rfl) (by kernel_rfl) (by kernel_rfl) (fun _ _ _ h => h) (by rfl) ?hy52 (by assumption) ?_
          case hy52 => intro W hSW; (try dsimp only at hSW); go_simp; (try with_reducible rfl)
          try simp only [Act.put, List.setIfInBounds_toArray, List.set_cons_zero, List.set_cons_succ]
          refine rg_take 1 (some 50) (v := ?v53) rfl rfl (by kernel_rfl) (by kernel_rfl) (by kernel_rfl) (fun _ _ _ h => h) (by rfl) ?hy53 (by assumption) ?_
          case hy53 => intro W hSW; (try dsimp only at hSW); go_simp; (try with_reducible rfl)
          try simp only [Act.put, List.setIfInBounds_toArray, List.set_cons_zero, List.set_cons_succ]
          refine rg_take 2 (some 51) (v := ?v54) rfl rfl (by kernel_rfl) (by kernel_rfl) (by kernel_rfl) (fun _ _ _ h => h) (by rfl) ?hy54 (by assumption) ?_
          case hy54 => intro W hSW; (try dsimp only at hSW); go_simp; (try with_reducible rfl)
          try simp only [Act.put, List.setIfInBounds_toArray, List.set_cons_zero, List.set_cons_succ]
          refine rg_take 3 (some 52) (v := ?v55) rfl rfl (by kernel_rfl) (by kernel_rfl) (by kernel_rfl) (fun _ _ _ h => h) (by rfl) ?hy55 (by assumption) ?_
          case hy55 => intro W hSW; (try dsimp only at hSW); go_simp; (try with_reducible rfl)
          try simp only [Act.put, List.setIfInBounds_toArray, List.set_cons_zero, List.set_cons_succ]
          refine rg_take 4 (some 53) (v := ?v56) rfl rfl (by kernel_rfl) (by kernel_rfl) (by kernel_rfl) (fun _ _ _ h => h) (by rfl) ?hy56 (by assumption) ?_
          case hy56 => intro W hSW; (try dsimp only at hSW); go_simp; (try with_reducible rfl)
          try simp only [Act.put, List.setIfInBounds_toArray, List.set_cons_zero, List.set_cons_succ]
          refine rg_take 5 (some 54) (v := ?v57) rfl rfl (by kernel_rfl) (by kernel_rfl) (by kernel_rfl) (fun _ _ _ h => h) (by rfl) ?hy57 (by assumption) ?_
          case hy57 => intro W hSW; (try dsimp only at hSW); go_simp; (try with_reducible rfl)
          try simp only [Act.put, List.setIfInBounds_toArray, List.set_cons_zero, List.set_cons_succ]
          refine rg_take 6 (some 55) (v := ?v58) rfl rfl (by kernel_rfl) (by kernel_rfl) (by kernel_rfl) (fun _ _ _ h => h) (by rfl) ?hy58 (by assumption) ?_
          case hy58 => intro W hSW; (try dsimp only at hSW); go_simp; (try with_reducible rfl)
          try simp only [Act.put, List.setIfInBounds_toArray, List.set_cons_zero, List.set_cons_succ]
          refine rg_take 7 (some 56) (v := ?v59) rfl rfl (by kernel_rfl) (by kernel_rfl) (by kernel_rfl) (fun _ _ _ h => h) (by rfl) ?hy59 (by assumption) ?_
          case hy59 => intro W hSW; (try dsimp only at hSW); go_simp; (try with_reducible rfl)
          try simp only [Act.put, List.setIfInBounds_toArray, List.set_cons_zero, List.set_cons_succ]
          refine rg_take 8 (some 57) (v := ?v60) rfl rfl (by kernel_rfl) (by kernel_rfl) (by kernel_rfl) (fun _ _ _ h => h) (by rfl) ?hy60 (by assumption) ?_
          case hy60 => intro W hSW; (try dsimp only at hSW); go_simp; (try with_reducible rfl)
          try simp only [Act.put, List.setIfInBounds_toArray, List.set_cons_zero, List.set_cons_succ]
          refine rg_take 9 (some 58) (v := ?v61) rfl rfl (by kernel_rfl) (by kernel_rfl) (by kernel_rfl) (fun _ _ _ h => h) (by rfl) ?hy61 (by assumption) ?_
          case hy61 => intro W hSW; (try dsimp only at hSW); go_simp; (try with_reducible rfl)
          try simp only [Act.put, List.setIfInBounds_toArray, List.set_cons_zero, List.set_cons_succ]
          refine rg_take 10 (some 59) (v := ?v62) rfl rfl (by kernel_rfl) (by kernel_rfl) (by kernel_rfl) (fun _ _ _ h => h) (by rfl) ?hy62 (by assumption) ?_
          case hy62 => intro W hSW; (try dsimp only at hSW); go_simp; (try with_reducible rfl)
          try simp only [Act.put, List.setIfInBounds_toArray, List.set_cons_zero, List.set_cons_succ]
          refine rg_take 11 (some 60) (v := ?v63) rfl rfl (by kernel_rfl) (by kernel_rfl) (by kernel_rfl) (fun _ _ _ h => h) (by rfl) ?hy63 (by assumption) ?_
          case hy63 => intro W hSW; (try dsimp only at hSW); go_simp; (try with_reducible rfl)
          try simp only [Act.put, List.setIfInBounds_toArray, List.set_cons_zero, List.set_cons_succ]
          refine rg_take 12 (some 61) (v := ?v64) rfl rfl (by kernel_rfl) (by kernel_rfl) (by kernel_rfl) (fun _ _ _ h => h) (by rfl) ?hy64 (by assumption) ?_
          case hy64 => intro W hSW; (try dsimp only at hSW); go_simp; (try with_reducible rfl)
          try simp only [Act.put, List.setIfInBounds_toArray, List.set_cons_zero, List.set_cons_succ]
          refine rg_take 13 (some 62) (v := ?v65) rfl rfl (by kernel_rfl) (by kernel_rfl) (by kernel_rfl) (fun _ _ _ h => h) (by rfl) ?hy65 (by assumption) ?_
          case hy65 => intro W hSW; (try dsimp only at hSW); go_simp; (try with_reducible rfl)
          try simp only [Act.put, List.setIfInBounds_toArray, List.set_cons_zero, List.set_cons_succ]
          refine rg_take 14 (some 63) (v := ?v66) rfl rfl (by kernel_rfl) (by kernel_rfl) (by kernel_rfl) (fun _ _ _ h => h) (by rfl) ?hy66 (by assumption) ?_
          case hy66 => intro W hSW; (try dsimp only at hSW); go_simp; (try with_reducible rfl)
          try simp only [Act.put, List.setIfInBounds_toArray, List.set_cons_zero, List.set_cons_succ]
          refine rg_one 15 rfl (by kernel_rfl) (by rfl) (fun K hK => ?_)
          go_simp
          (go_at_call 42; refine kA'.mono ?_; rintro e w1 ⟨rfl, hb1, hm1'⟩)
          refine hK.out _ _ ⟨hFC.out _ (hb0.trans hb1 fun _ _ h => h), hb0.trans hb1 fun _ _ h => h⟩ (fun hHeld15 => ?_)
          clear hK K hHeld
          try simp only [Act.put, List.setIfInBounds_toArray, List.set_cons_zero, List.set_cons_succ]
          have hB1 : Bar (fun k => k = b1 ∨ k = b2) w w1 := hb0.trans hb1 fun _ _ h => h
          have kR' := kR.out _ m1 hB1 (hm1' m1 rfl)
          rw [h2] at kR'
          refine rg_take 16 (some 65) (v := ?v67) rfl rfl (by kernel_rfl) (by kernel_rfl) (by kernel_rfl) (fun _ _ _ h => h) (by rfl) ?hy67 (by assumption) ?_
          case hy67 => intro W hSW; (try dsimp only at hSW); go_simp; (try with_reducible rfl)
          try simp only [Act.put, List.setIfInBounds_toArray, List.set_cons_zero, List.set_cons_succ]
          refine rg_take 17 (some 66) (v := ?v68) rfl rfl (by kernel_rfl) (by kernel_rfl) (by kernel_rfl) (fun _ _ _ h => h) (by rfl) ?hy68 (by assumption) ?_
          case hy68 => intro W hSW; (try dsimp only at hSW); go_simp; (try with_reducible rfl)
          try simp only [Act.put, List.setIfInBounds_toArray, List.set_cons_zero, List.set_cons_succ]
          refine rg_take 18 (some 67) (v := ?v69) rfl rfl (by kernel_rfl) (by kernel_rfl) (by kernel_rfl) (fun _ _ _ h => h) (by rfl) ?hy69 (by assumption) ?_
          case hy69 => intro W hSW; (try dsimp only at hSW); go_simp; (try with_reducible rfl)
          try simp only [Act.put, List.setIfInBounds_toArray, List.set_cons_zero, List.set_cons_succ]
          refine rg_take 19 (some 68) (v := ?v70) rfl rfl (by kernel_rfl) (by kernel_rfl) (by kernel_rfl) (fun _ _ _ h => h) (by rfl) ?hy70 (by assumption) ?_
          case hy70 => intro W hSW; (try dsimp only at hSW); go_simp; (try with_reducible rfl)
          try simp only [Act.put, List.setIfInBounds_toArray, List.set_cons_zero, List.set_cons_succ]
          refine rg_take 20 (some 69) (v := ?v71) rfl rfl (by kernel_rfl) (by kernel_rfl) (by kernel_rfl) (fun _ _ _ h => h) (by rfl) ?hy71 (by assumption) ?_
          case hy71 => intro W hSW; (try dsimp only at hSW); go_simp; (try with_reducible rfl)
          try simp only [Act.put, List.setIfInBounds_toArray, List.set_cons_zero, List.set_cons_succ]
          refine rg_take 21 (some 70) (v := ?v72) rfl rfl (by kernel_rfl) (by kernel_rfl) (by kernel_rfl) (fun _ _ _ h => h) (by rfl) ?hy72 (by assumption) ?_
          case hy72 => intro W hSW; (try dsimp only at hSW); go_simp; (try with_reducible rfl)
          try simp only [Act.put, List.setIfInBounds_toArray, List.set_cons_zero, List.set_cons_succ]
          refine rg_take 22 (some 71) (v := ?v73) rfl rfl (by kernel_rfl) (by kernel_rfl) (by kernel_rfl) (fun _ _ _ h => h) (by rfl) ?hy73 (by assumption) ?_
          case hy73 => intro W hSW; (try dsimp only at hSW); go_simp; (try with_reducible rfl)
          try simp only [Act.put, List.setIfInBounds_toArray, List.set_cons_zero, List.set_cons_succ]
          refine rg_take 23 (some 72) (v := ?v74) rfl rfl (by kernel_rfl) (by kernel_rfl) (by kernel_rfl) (fun _ _ _ h => h) (by rfl) ?hy74 (by assumption) ?_
          case hy74 => intro W hSW; (try dsimp only at hSW); go_simp; (try with_reducible rfl)
          try simp only [Act.put, List.setIfInBounds_toArray, List.set_cons_zero, List.set_cons_succ]
          refine rg_take 24 (some 73) (v := ?v75) rfl rfl (by kernel_rfl) (by kernel_rfl) (by kernel_rfl) (fun _ _ _ h => h) (by rfl) ?hy75 (by assumption) ?_
          case hy75 => intro W hSW; (try dsimp only at hSW); go_simp; (try with_reducible rfl)
          try simp only [Act.put, List.setIfInBounds_toArray, List.set_cons_zero, List.set_cons_succ]
          refine rg_take 25 (some 74) (v := ?v76) rfl rfl (by kernel_rfl) (by kernel_rfl) (by kernel_rfl) (fun _ _ _ h => h) (by rfl) ?hy76 (by assumption) ?_
          case hy76 => intro W hSW; (try dsimp only at hSW); go_simp; (try with_reducible rfl)
          try simp only [Act.put, List.setIfInBounds_toArray, List.set_cons_zero, List.set_cons_succ]
          refine rg_one 26 rfl (by kernel_rfl) (by rfl) (fun K hK => ?_)
          go_simp
          (go_at_call 73; refine kR'.mono ?_; rintro e w2 ⟨rfl, hb2, hm2'⟩)
          refine hK.out _ _ ⟨hFC.out _ (hB1.trans hb2 fun _ _ h => h), hB1.trans hb2 fun _ _ h => h⟩ (fun hHeld26 => ?_)
          clear hK K hHeld15
          try simp only [Act.put, List.setIfInBounds_toArray, List.set_cons_zero, List.set_cons_succ]
          have hB2 : Bar (fun k => k = b1 ∨ k = b2) w w2 := hB1.trans hb2 fun _ _ h => h
          have kB' := kB.out _ m2 hk2 hB2 (hm2' m2 rfl)
          rw [hR] at kB'
          clear hR hRs
          refine rg_take 27 (some 76) (v := ?v77) rfl rfl (by kernel_rfl) (by kernel_rfl) (by kernel_rfl) (fun _ _ _ h => h) (by rfl) ?hy77 (by assumption) ?_
          case hy77 => intro W hSW; (try dsimp only at hSW); go_simp; (try with_reducible rfl)
          try simp only [Act.put, List.setIfInBounds_toArray, List.set_cons_zero, List.set_cons_succ]
          refine rg_take 28 (some 77) (v := ?v78) rfl rfl (by kernel_rfl) (by kernel_rfl) (by kernel_rfl) (fun _ _ _ h => h) (by rfl) ?hy78 (by assumption) ?_
          case hy78 => intro W hSW; (try dsimp only at hSW); go_simp; (try with_reducible rfl)
          try simp only [Act.put, List.setIfInBounds_toArray, List.set_cons_zero, List.set_cons_succ]
          refine rg_take 29 (some 78) (v := ?v79) rfl rfl (by kernel_rfl) (by kernel_rfl) (by kernel_rfl) (fun _ _ _ h => h) (by rfl) ?hy79 (by assumption) ?_
          case hy79 => intro W hSW; (try dsimp only at hSW); go_simp; (try with_reducible rfl)
          try simp only [Act.put, List.setIfInBounds_toArray, List.set_cons_zero, List.set_cons_succ]
          refine rg_take 30 (some 79) (v := ?v80) rfl rfl (by kernel_rfl) (by kernel_rfl) (by kernel_rfl) (fun _ _ _ h => h) (by rfl) ?hy80 (by assumption) ?_
          case hy80 => intro W hSW; (try dsimp only at hSW); go_simp; (try with_reducible rfl)
          try simp only [Act.put, List.setIfInBounds_toArray, List.set_cons_zero, List.set_cons_succ]
          refine rg_take 31 (some 80) (v := ?v81) rfl rfl (by kernel_rfl) (by kernel_rfl) (by kernel_rfl) (fun _ _ _ h => h) (by rfl) ?hy81 (by assumption) ?_
          case hy81 => intro W hSW; (try dsimp only at hSW); go_simp; (try with_reducible rfl)
          try simp only [Act.put, List.setIfInBounds_toArray, List.set_cons_zero, List.set_cons_succ]
          refine rg_take 32 (some 81) (v := ?v82) rfl rfl (by kernel_rfl) (by kernel_rfl) (by kernel_rfl) (fun _ _ _ h => h) (by rfl) ?hy82 (by assumption) ?_
          case hy82 => intro W hSW; (try dsimp only at hSW); go_simp; (try with_reducible rfl)
          try simp only [Act.put, List.setIfInBounds_toArray, List.set_cons_zero, List.set_cons_succ]
          refine rg_take 33 (some 82) (v := ?v83) rfl rfl (by kernel_rfl) (by kernel_rfl) (by kernel_rfl) (fun _ _ _ h => h) (by rfl) ?hy83 (by assumption) ?_
          case hy83 => intro W hSW; (try dsimp only at hSW); go_simp; (try with_reducible rfl)
          try simp only [Act.put, List.setIfInBounds_toArray, List.set_cons_zero, List.set_cons_succ]
          refine rg_take 34 (some 83) (v := ?v84) rfl rfl (by kernel_rfl) (by kernel_rfl) (by kernel_rfl) (fun _ _ _ h => h) (by rfl) ?hy84 (by assumption) ?_
          case hy84 => intro W hSW; (try dsimp only at hSW); go_simp; (try with_reducible rfl)
          try simp only [Act.put, List.setIfInBounds_toArray, List.set_cons_zero, List.set_cons_succ]
          refine rg_take 35 (some 84) (v := ?v85) rfl rfl (by kernel_rfl) (by kernel_rfl) (by kernel_rfl) (fun _ _ _ h => h) (by rfl) ?hy85 (by assumption) ?_
          case hy85 => intro W hSW; (try dsimp only at hSW); go_simp; (try with_reducible rfl)
          try simp only [Act.put, List.setIfInBounds_toArray, List.set_cons_zero, List.set_cons_succ]
          refine rg_take 36 (some 85) (v := ?v86) rfl rfl (by kernel_rfl) (by kernel_rfl) (by kernel_rfl) (fun _ _ _ h => h) (by rfl) ?hy86 (by assumption) ?_
          case hy86 => intro W hSW; (try dsimp only at hSW); go_simp; (try with_reducible rfl)
          try simp only [Act.put, List.setIfInBounds_toArray, List.set_cons_zero, List.set_cons_succ]
          refine rg_take 37 (some 86) (v := ?v87) rfl rfl (by kernel_rfl) (by kernel_rfl) (by kernel_rfl) (fun _ _ _ h => h) (by rfl) ?hy87 (by assumption) ?_
          case hy87 => intro W hSW; (try dsimp only at hSW); go_simp; (try with_reducible rfl)
          try simp only [Act.put, List.setIfInBounds_toArray, List.set_cons_zero, List.set_cons_succ]
          refine rg_one 38 rfl (by kernel_rfl) (by rfl) (fun K hK => ?_)
          go_simp
          (go_at_call 42; refine kB'.mono ?_; rintro e w3 ⟨rfl, hb3, hm3'⟩)
          refine hK.out _ _ ⟨hFC.out _ (hB2.trans hb3 fun _ _ h => h), hB2.trans hb3 fun _ _ h => h⟩ (fun hHeld38 => ?_)
          clear hK K hHeld26
          try simp only [Act.put, List.setIfInBounds_toArray, List.set_cons_zero, List.set_cons_succ]
          refine rg_take 39 (some 88) (v := ?v88) rfl rfl (by kernel_rfl) (by kernel_rfl) (by kernel_rfl) (fun _ _ _ h => h) (by rfl) ?hy88 (by assumption) ?_
          case hy88 => intro W hSW; (try dsimp only at hSW); go_simp; (try with_reducible rfl)
          try simp only [Act.put, List.setIfInBounds_toArray, List.set_cons_zero, List.set_cons_succ]
          refine rg_take 40 (some 89) (v := ?v89) rfl rfl (by kernel_rfl) (by kernel_rfl) (by kernel_rfl) (fun _ _ _ h => h) (by rfl) ?hy89 (by assumption) ?_
          case hy89 => intro W hSW; (try dsimp only at hSW); go_simp; (try with_reducible rfl)
          try simp only [Act.put, List.setIfInBounds_toArray, List.set_cons_zero, List.set_cons_succ]
          refine rg_take 41 (some 6) (v := ?v90) rfl rfl (by kernel_rfl) (by kernel_rfl) (by kernel_rfl) (fun _ _ _ h => h) (by rfl) ?hy90 (by assumption) ?_
          case hy90 => intro W hSW; (try dsimp only at hSW); go_simp; (try with_reducible rfl)
          try simp only [Act.put, List.setIfInBounds_toArray, List.set_cons_zero, List.set_cons_succ]
          refine wpAnyH_done (by kernel_rfl) ?_ _
          go_wp2_with fail
          go_ret
          exact hfin.out _ _ hB2 hb3 hm3'
end Go.Proofs.YtfkdcconmecaoaaDoor

/- match.Instance. -/
namespace Go.Proofs.YtfkdcconmecaoaaDoor
open Go.RowKit Go.Maps
set_option linter.unusedVariables false
set_option linter.unusedSimpArgs false

def instV (ts us : List Ty) : Bool := (tyV ts && tyV us) && instT (treeOf ts) (treeOf us)
def instE (ts us : List Ty) : Int := if tyV ts && tyV us then 0 else 1100
theorem mtAt_new (w : World) (T : TypeId) : MtAt (((w.alloc (.map #[] 0)).alloc (.map #[] 0)).alloc (.cells #[.map (some w.heap.size), .map (some (w.heap.size + 1))] T)) (w.heap.size + 2) w.heap.size (w.heap.size + 1) 0 MS.none := by
  refine ⟨by simp, by rw [World.cell?_alloc_at _ _ _ _ (by simp)]; rfl, by rw [World.cell?_alloc_at _ _ _ _ (by simp)]; rfl, by omega, ⟨fun _ => none, ?_, fun v => trivial⟩, ?_⟩
  · exact ((mapOf_made w).alloc _).alloc _
  · have h := (mapOf_made (w.alloc (.map #[] 0))).alloc (.cells #[.map (some w.heap.size), .map (some (w.heap.size + 1))] T)
    have e : (w.alloc (.map #[] 0)).heap.size = w.heap.size + 1 := by simp
    rw [e] at h
    exact h
theorem tyArg_some {w : World} {a : Option Addr} {n : Nat} {ts : List Ty} (h : TyArg w a n ts) (hv : tyV ts = true) : ∃ b off, a = some ⟨b, off, none⟩ ∧ TySl w b off ts ∧ b < w.heap.size := by
  obtain ⟨_, h0 | h0⟩ := h
  · rw [h0] at hv; simp [tyV] at hv
  · exact h0
set_option maxRecDepth 100000 in
set_option maxHeartbeats 8000000 in
theorem instance_any (a1 a2 : Option Addr) (n1 n2 c1 c2 : Nat) (ts us : List Ty) (w : World) (h : Hid (TyArg w a1 n1 ts)) (h2 : Hid (TyArg w a2 n2 us)) (hl : n1 ≤ 140737488351232) (hl2 : n2 ≤ 140737488351232) :
    Calls Tryd.prog 20 #[.agg #[.slice a1 n1 c1], .agg #[.slice a2 n2 c2]] w fun e w' => e = .returned (.tuple #[.bool (instV ts us), .int .i64 (instE ts us)]) ∧ Below w.heap.size w w' := by
  have kM := Lib.hid fun (W : World) (hb : Below w.heap.size w W) => tyMay_any a1 n1 c1 ts W (Lib.hid (h.out.below hb)) hl
  have kN := Lib.hid fun (W : World) (hb : Below w.heap.size w W) => tyMay_any a2 n2 c2 us W (Lib.hid (h2.out.below hb)) hl2
  have hX := Lib.hid (show BoxAt ((w.alloc (.cells #[.slice a1 n1 c1] 24)).alloc (.cells #[.slice a2 n2 c2] 24)) w.heap.size (.slice a1 n1 c1) from BoxAt.alloc _ (box_lit _ _ _ _ rfl))
  have hY := Lib.hid (show BoxAt ((w.alloc (.cells #[.slice a1 n1 c1] 24)).alloc (.cells #[.slice a2 n2 c2] 24)) (w.heap.size + 1) (.slice a2 n2 c2) from box_lit _ _ _ _ (by simp))
  have hmm := @run_makeMap Tryd.prog
  cases htv : tyV ts
  · have hv : Hid (instV ts us = false ∧ instE ts us = 1100) := Lib.hid (by unfold instV instE; rw [htv]; exact ⟨rfl, rfl⟩)
    rw [htv] at kM
    clear htv h h2 kN hY
    go_enter Tryd.func20, Tryd.ntmps20
    go_wp2_with fail
    refine (kM.out _ (below_alc2 w _ _)).mono ?_
    rintro e w1 ⟨rfl, hb1⟩
    have hB := Lib.hid (belT (below_alc2 w _ _) hb1)
    clear hb1
    go_wp2_with fail
    go_ret2
    exact ⟨by rw [hv.out.1, hv.out.2]; rfl, hB.out⟩
  cases huv : tyV us
  · have hv : Hid (instV ts us = false ∧ instE ts us = 1100) := Lib.hid (by unfold instV instE; rw [htv, huv]; exact ⟨rfl, rfl⟩)
    rw [htv] at kM
    rw [huv] at kN
    clear htv huv h h2
    go_enter Tryd.func20, Tryd.ntmps20
    go_wp2_with fail
    refine (kM.out _ (below_alc2 w _ _)).mono ?_
    rintro e w1 ⟨rfl, hb1⟩
    have hB := belT (below_alc2 w (.cells #[.slice a1 n1 c1] 24) (.cells #[.slice a2 n2 c2] 24)) hb1
    obtain ⟨x0, x1⟩ := hY.out.below hb1
    clear hb1
    go_wp2_with fail
    refine (kN.out _ hB).mono ?_
    rintro e w2 ⟨rfl, hb2⟩
    go_wp2_with fail
    go_ret2
    exact ⟨by rw [hv.out.1, hv.out.2]; rfl, belT hB hb2⟩
  · have hto := tyV_of htv
    have hto2 := tyV_of huv
    have hv : Hid (instV ts us = instT (treeOf ts) (treeOf us) ∧ instE ts us = 0) := Lib.hid (by unfold instV instE; rw [htv, huv]; exact ⟨rfl, rfl⟩)
    obtain ⟨rfl, _⟩ := h.out
    obtain ⟨rfl, _⟩ := h2.out
    obtain ⟨b, off, rfl, hA4, hA5⟩ := tyArg_some h.out htv
    obtain ⟨b', off', rfl, hA6, hA7⟩ := tyArg_some h2.out huv
    have kO := Lib.hid fun (W : World) (hb : Below w.heap.size w W) => shOf_tree b off c1 ts (treeOf ts) W (Lib.hid (hA4.below hb hA5)) (by have := hb.size; omega) htv hto.1 hto.2.2.2.2
    have kO2 := Lib.hid fun (W : World) (hb : Below w.heap.size w W) => shOf_tree b' off' c2 us (treeOf us) W (Lib.hid (hA6.below hb hA7)) (by have := hb.size; omega) huv hto2.1 hto2.2.2.2.2
    have kT := Lib.hid fun (gg gs gm b1 b2 : Nat) (W : World) (hm : MtAt W gm b1 b2 0 MS.none) (hg : Shp W (treeOf ts) gg) (hs : Shp W (treeOf us) gs) => mtMatch_any (treeOf ts) (treeOf us) gg gs gm b1 b2 0 MS.none W (Lib.hid hm) (Lib.hid hg) (Lib.hid hs) hto.1 hto2.1 (fun _ _ h => by cases h) (by have := hto.2.2.2.1; omega)
    rw [htv] at kM
    rw [huv] at kN
    have hin : Hid ((mtT (treeOf ts) (treeOf us) MS.none).isSome = instT (treeOf ts) (treeOf us)) := Lib.hid rfl
    generalize mtT (treeOf ts) (treeOf us) MS.none = R at kT hin
    rw [← hin.out] at hv
    clear htv huv hto hto2 h h2 hA4 hA6 hin
    unfold MkPost at *
    unfold ptrS at *
    go_enter Tryd.func20, Tryd.ntmps20
    go_wp2_with fail
    refine (kM.out _ (below_alc2 w _ _)).mono ?_
    rintro e w1 ⟨rfl, hb1⟩
    have hB := belT (below_alc2 w (.cells #[.slice (some ⟨b, off, none⟩) ts.length c1] 24) (.cells #[.slice (some ⟨b', off', none⟩) us.length c2] 24)) hb1
    have hX := Lib.hid (hX.out.below hb1)
    have hY := Lib.hid (hY.out.below hb1)
    obtain ⟨x0, x1⟩ := hY.out
    clear hb1
    go_wp2_with fail
    refine (kN.out _ hB).mono ?_
    rintro e w2 ⟨rfl, hb2⟩
    have hX := Lib.hid (hX.out.below hb2)
    have hY := Lib.hid (hY.out.below hb2)
    have hB := Lib.hid (belT hB hb2)
    clear hb2 x0 x1
    have hM := mtAt_new w2 88
    have hBX := belA (.cells #[.map (some w2.heap.size), .map (some (w2.heap.size + 1))] 88) (belA (.map #[] 0) (belA (.map #[] 0) hB.out))
    have hXX := ((hX.out.alloc (.map #[] 0)).alloc (.map #[] 0)).alloc (.cells #[.map (some w2.heap.size), .map (some (w2.heap.size + 1))] 88)
    have hYX := ((hY.out.alloc (.map #[] 0)).alloc (.map #[] 0)).alloc (.cells #[.map (some w2.heap.size), .map (some (w2.heap.size + 1))] 88)
    have hsz := hY.out.1
    have hM := Lib.hid hM; have hBX := Lib.hid hBX; have hXX := Lib.hid hXX; have hYX := Lib.hid hYX
    clear hX hY hB kM kN
    go_upto_region 4 with fail
    generalize hWx : (((w2.alloc (.map #[] 0)).alloc (.map #[] 0)).alloc (.cells #[.map (some w2.heap.size), .map (some (w2.heap.size + 1))] 88)) = X at hM hBX hXX hYX ⊢
    generalize w2.heap.size = B2 at hM hsz ⊢
    clear hWx hmm
    have hS0 : ∀ W, Below X.heap.size X W → (W.cell? ⟨w.heap.size, 0, none⟩ = some (.slice (some ⟨b, off, none⟩) ts.length c1) ∧ W.cell? ⟨w.heap.size + 1, 0, none⟩ = some (.slice (some ⟨b', off', none⟩) us.length c2) ∧ w.heap.size + 1 < W.heap.size ∧ Below w.heap.size w W) := fun W hW => ⟨(hXX.out.below hW).2, (hYX.out.below hW).2, (hYX.out.below hW).1, belT hBX.out hW⟩
    have hb3 : Below X.heap.size X X.drew := (Below.refl _ _).drew
    refine wp_region_held_drew (S := fun W => W.cell? ⟨w.heap.size, 0, none⟩ = some (.slice (some ⟨b, off, none⟩) ts.length c1) ∧ W.cell? ⟨w.heap.size + 1, 0, none⟩ = some (.slice (some ⟨b', off', none⟩) us.length c2) ∧ w.heap.size + 1 < W.heap.size ∧ Below w.heap.size w W) (by kernel_rfl) (hS0 _ hb3) (fun hHeld => ?_)
    generalize X.drew = W3 at hb3 hHeld ⊢
    refine rg_take 0 (some 18) (v := ?v1) rfl rfl (by kernel_rfl) (by kernel_rfl) (by kernel_rfl) (fun _ _ _ h => h) (by rfl) ?hy1 (by assumption) ?_
    case hy1 => intro W hSW; (try dsimp only at hSW); go_simp; (try with_reducible rfl)
    try simp only [Act.put, List.setIfInBounds_toArray, List.set_cons_zero, List.set_cons_succ]
    refine rg_take 2 (some 20) (v := ?v2) rfl rfl (by kernel_rfl) (by kernel_rfl) (by kernel_rfl) (fun _ _ _ h => h) (by rfl) ?hy2 (by assumption) ?_
    case hy2 => intro W hSW; (try dsimp only at hSW); go_simp; (try with_reducible rfl)
    try simp only [Act.put, List.setIfInBounds_toArray, List.set_cons_zero, List.set_cons_succ]
    refine rg_one 1 rfl (by kernel_rfl) (by rfl) (fun K hK => ?_)
    go_simp
    (go_at_call 28; refine (kO.out _ (belT hBX.out hb3)).mono ?_; rintro e w4 ⟨gg, rfl, hs4, hb4⟩)
    refine hK.out _ _ (hS0 _ (belT hb3 hb4)) (fun hHeld1 => ?_)
    clear hK K hHeld
    try simp only [Act.put, List.setIfInBounds_toArray, List.set_cons_zero, List.set_cons_succ]
    refine rg_one 3 rfl (by kernel_rfl) (by rfl) (fun K hK => ?_)
    go_simp
    (go_at_call 28; refine (kO2.out _ (belT hBX.out (belT hb3 hb4))).mono ?_; rintro e w5 ⟨gs, rfl, hs5, hb5⟩)
    refine hK.out _ _ (hS0 _ (belT (belT hb3 hb4) hb5)) (fun hHeld3 => ?_)
    clear hK K hHeld1
    try simp only [Act.put, List.setIfInBounds_toArray, List.set_cons_zero, List.set_cons_succ]
    have hmb := hM.out.below (belT (belT hb3 hb4) hb5)
    have hq := Lib.hid hHeld3
    refine rg_one 4 rfl (by kernel_rfl) (by rfl) (fun K hK => ?_)
    go_simp
    (go_at_call 42; refine (kT.out gg gs _ _ _ _ hmb (hs4.keep hb5) hs5).mono ?_; rintro e w6 ⟨rfl, hb6, _⟩)
    refine hK.out _ _ ⟨hb6.cell hq.out.1 (by show ¬ (w.heap.size = B2 ∨ w.heap.size = B2 + 1); omega), hb6.cell hq.out.2.1 (by show ¬ (w.heap.size + 1 = B2 ∨ w.heap.size + 1 = B2 + 1); omega), by have := hb6.size; have := hq.out.2.2.1; omega, hq.out.2.2.2.trans (hb6.below (by have := hq.out.2.2.2.size; omega) (by rintro k (rfl | rfl) <;> omega))⟩ (fun hHeld4 => ?_)
    clear hK K hHeld3
    try simp only [Act.put, List.setIfInBounds_toArray, List.set_cons_zero, List.set_cons_succ]
    refine rg_take 5 (some 4) (v := ?v3) rfl rfl (by kernel_rfl) (by kernel_rfl) (by kernel_rfl) (fun _ _ _ h => h) (by rfl) ?hy3 (by assumption) ?_
    case hy3 => intro W hSW; (try dsimp only at hSW); go_simp; (try with_reducible rfl)
    try simp only [Act.put, List.setIfInBounds_toArray, List.set_cons_zero, List.set_cons_succ]
    refine rg_take 6 (some 5) (v := ?v4) rfl rfl (by kernel_rfl) (by kernel_rfl) (by kernel_rfl) (fun _ _ _ h => h) (by rfl) ?hy4 (by assumption) ?_
    case hy4 => intro W hSW; (try dsimp only at hSW); go_simp; (try with_reducible rfl)
    try simp only [Act.put, List.setIfInBounds_toArray, List.set_cons_zero, List.set_cons_succ]
    refine wpAnyH_done (by kernel_rfl) ?_ _
    go_wp2_with fail
    go_ret2
    exact ⟨by rw [hv.out.1, hv.out.2]; rfl, hHeld4.2.2.2⟩
end Go.Proofs.YtfkdcconmecaoaaDoor
