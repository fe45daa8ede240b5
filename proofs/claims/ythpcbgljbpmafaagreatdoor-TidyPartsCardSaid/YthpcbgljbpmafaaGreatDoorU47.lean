/- tidy.Tidy. -/
import Derived.Test.YthpcbgljbpmafaaGreatDoorU23
import Derived.Test.YthpcbgljbpmafaaGreatDoorU24
import Derived.Test.YthpcbgljbpmafaaGreatDoorU25
import Derived.Test.YthpcbgljbpmafaaGreatDoorU30
import Derived.Test.YthpcbgljbpmafaaGreatDoorU31
import Derived.Test.YthpcbgljbpmafaaGreatDoorU37
import Derived.Test.YthpcbgljbpmafaaGreatDoorU38
import Derived.Test.YthpcbgljbpmafaaGreatDoorU39
import Derived.Test.YthpcbgljbpmafaaGreatDoorU46
set_option maxRecDepth 100000
set_option maxHeartbeats 8000000
namespace Go.Proofs.YthpcbgljbpmafaaGreatDoor
open Go.RowKit
set_option linter.unusedVariables false
set_option linter.unusedSimpArgs false
def TdPost (os : List Or) (ts : List Nd) (w : World) (e : Ending) (w' : World) : Prop := Below w.heap.size w w' ∧ ((smayV os ts = false ∧ e = .returned (.tuple #[.agg #[.slice none 0 0, .slice none 0 0], .int .i64 2500])) ∨ (smayV os ts = true ∧ ∃ vo vn, e = .returned (.tuple #[.agg #[vo, vn], .int .i64 0]) ∧ OwnO w.heap.size w' vo os ∧ OwnN w.heap.size w' vn (td ts (ts.length - 1) [])))
theorem tre_may {os : List Or} {ts : List Nd} (h : smayV os ts = true) : Tre ts := by
 rw [smay_r] at h
 simp only [Bool.and_eq_true] at h
 exact tre_of h.2.1
theorem tdw_new {w W2 : World} {a2 : Option Addr} {n2 c2 : Nat} {ts : List Nd} {T : TypeId} (h : NArg w a2 n2 ts) (h0 : 0 < ts.length) (hW : w.alloc (.cells #[.slice a2 n2 c2, .slice none 0 0] T) = W2) : TdW (w.heap.size + 1) w.heap.size (.slice a2 n2 c2) ts W2 (.slice none 0 0) [] := by
 subst hW
 obtain ⟨rfl, h | ⟨b, off, rfl, hs, hb⟩⟩ := h
 ·rw [h] at h0; simp at h0
 refine ⟨by rw [World.cell?_alloc_at _ _ _ _ rfl]; rfl, by rw [World.cell?_alloc_at _ _ _ _ rfl]; rfl, by omega, by simp, fun o => by simp [go_sem], ⟨b, off, c2, rfl, by omega, by omega, by simp; omega, hs.below (below_alc _ _) hb⟩, OwnN.nil _ _, by simp⟩
theorem tidy_any (a a2 : Option Addr) (n c n2 c2 : Nat) (os : List Or) (ts : List Nd) (w : World) (h : Hid (OArg w a n os)) (hsz : Hid (∀ t ∈ os, OrSz t)) (hl : n ≤ 140737488351232) (h2 : Hid (NArg w a2 n2 ts)) (hsz2 : Hid (∀ t ∈ ts, NdSz t)) (hl2 : n2 ≤ 140737488351232) (hg : Hid (errTy w)) :
  Calls Tryz.prog 8 #[.agg #[.slice a n c, .slice a2 n2 c2]] w (TdPost os ts w) := by
 obtain ⟨M, hM⟩ : ∃ r, smayV os ts = r := ⟨_, rfl⟩
 have hMh := Lib.hid hM
 have kM := Lib.hid fun (W : World) (hW : Below w.heap.size w W) => sMay_any a a2 n c n2 c2 os ts W (Lib.hid (h.out.below hW)) hsz hl (Lib.hid (h2.out.below hW)) hsz2 hl2 (Lib.hid (hg.out.below hW))
 rw [hM] at kM
 clear hM
 have hV := rvW_mk w a n c a2 n2 c2
 go_enter Tryz.func8, Tryz.ntmps8
 go_wp2_with fail
 obtain ⟨w0, hw0⟩ : ∃ W, (w.alloc (.cells #[.slice a n c, .slice a2 n2 c2] 25)).alloc (.cells #[.slice none 0 0, .slice none 0 0] 25) = W := ⟨_, rfl⟩
 rw [hw0] at hV ⊢
 clear hw0
 refine (kM.out _ hV.2.2.2.2.2.2).mono ?_
 rintro e w1 ⟨rfl, hb1⟩
 have hV1 := Lib.hid (hV.below hb1)
 clear hb1 hV kM
 cases M with
 | false =>
  obtain ⟨v0, v1, v2, v3, v4, v5, v6⟩ := hV1.out
  obtain ⟨s0, s1, s2⟩ := two_set v3 v4 (.slice none 0 0) (.slice none 0 0)
  have hv5 := v5 0
  have hv6 := v5 1
  have hfin : Hid (Below w.heap.size w ((w1.setCell ⟨w.heap.size + 1, 0, none⟩ (.slice none 0 0)).setCell ⟨w.heap.size + 1, 1, none⟩ (.slice none 0 0))) := Lib.hid ((v6.setCell (by show w.heap.size ≤ w.heap.size + 1; omega) _).setCell (by show w.heap.size ≤ w.heap.size + 1; omega) _)
  go_wp2_with fail
  exact bodyPost_ret (v := .tuple #[.agg #[.slice none 0 0, .slice none 0 0], .int .i64 2500]) (by simp [results, Tryz.results8, go_sem, s0, s1]) rfl ⟨hfin.out, .inl ⟨hMh.out, rfl⟩⟩
 | true =>
  have hT := tre_may hMh.out
  have h0 : 0 < ts.length := hT.len.1
  have h512 : ts.length ≤ 512 := hT.len.2
  obtain rfl : n2 = ts.length := h2.out.1
  obtain ⟨W2, hW2⟩ : ∃ W, w1.alloc (.cells #[.slice a2 ts.length c2, .slice none 0 0] 51) = W := ⟨_, rfl⟩
  have hO := Lib.hid (tdw_new (c2 := c2) (h2.out.below hV1.out.2.2.2.2.2.2) h0 hW2)
  have kP := Lib.hid (show Calls Tryz.prog 22 #[.pointer (some ⟨w1.heap.size, 0, none⟩), .int .i64 ((ts.length : Int) - 1)] W2 (TdN (w1.heap.size + 1) w1.heap.size (.slice a2 ts.length c2) ts W2 (.slice none 0 0) (td ts (ts.length - 1) [])) from by
   rw [show (ts.length : Int) - 1 = ((ts.length - 1 : Nat) : Int) by omega]
   exact tput_any hT (ts.length - 1) (by omega) W2 _ [] hO (Lib.hid (fun t ht => by cases ht)) (by have := hT.bgs (ts.length - 1) (by omega); simp; omega))
  have hb2 : Below w1.heap.size w1 W2 := by rw [← hW2]; exact below_alc _ _
  have hV2 := Lib.hid (hV1.out.below hb2)
  obtain ⟨v0, v1, v2, v3, v4, v5, v6⟩ := hV1.out
  have hl1 : 1 ≤ (ts.length : Int) := by omega
  have hl5 : (ts.length : Int) ≤ 512 := by omega
  have hT := Lib.hid hT
  have hws : w.heap.size < w1.heap.size := by omega
  have hW3 := Lib.hid hW2
  clear v3 v4 hb2 hW2
  go_wp2_with fail
  rw [hW3.out]
  clear hW3 h0 h512
  refine kP.out.mono ?_
  rintro e w3 ⟨rfl, mv, k1, k2⟩
  have hwl : w.heap.size + 1 < w1.heap.size := v0
  have hV3 := Lib.hid (hV2.out.bar k2.1 (fun e => by rcases e with e | e; omega; cases e) (fun e => by rcases e with e | e; omega; cases e) (fun k e => by rcases e with e | e; omega; cases e))
  have hlt := Lib.hid (td_le hT.out (ts.length - 1) (by omega) [])
  obtain ⟨m, hm⟩ : ∃ r, td ts (ts.length - 1) [] = r := ⟨_, rfl⟩
  have hmh := Lib.hid hm
  rw [hm] at k1
  clear hm kP v0 v1 v2 v5 v6 hV2 hV1 k2 hO
  obtain ⟨ma, mc, rfl⟩ := own_sl k1.own
  have hk1 := Lib.hid k1
  have hp1 := hV3.out.2.1
  have hcm := k1.cm
  have hgl : w1.heap.size < w3.heap.size := k1.bl
  clear k1
  go_upto_region 5 with fail
  refine wp_region_held_drew (S := fun W => W.cell? ⟨w.heap.size, 0, none⟩ = some (.slice a n c) ∧ W.cell? ⟨w1.heap.size, 1, none⟩ = some (.slice ma m.length mc)) (by kernel_rfl) (by have hd : Bar (fun _ => False) w3 w3.drew := Bar.of_below ((Below.refl _ _).drew); exact ⟨hd.cell hp1 id, hd.cell hcm id⟩) (fun hHeld => ?_)
  have hV6 := Lib.hid (hV3.out.below ((Below.refl _ _).drew))
  have hk6 := Lib.hid (hk1.out.below ((Below.refl _ _).drew))
  generalize w3.drew = we at hV6 hk6 hHeld ⊢
  clear hp1 hcm hgl hV3 hk1
  refine rg_take 0 (some 17) (v := ?v1) rfl rfl (by kernel_rfl) (by kernel_rfl) (by kernel_rfl) (fun _ _ _ h => h) (by rfl) ?hy1 (by assumption) ?_
  case hy1 => intro W hSW; (try dsimp only at hSW); go_simp; (try with_reducible rfl)
  try simp only [Act.put, bP, bQ, bT]
  refine rg_take 1 (some 18) (v := ?v2) rfl rfl (by kernel_rfl) (by kernel_rfl) (by kernel_rfl) (fun _ _ _ h => h) (by rfl) ?hy2 (by assumption) ?_
  case hy2 => intro W hSW; (try dsimp only at hSW); go_simp; (try with_reducible rfl)
  try simp only [Act.put, bP, bQ, bT]
  refine rg_take 3 (some 20) (v := ?v3) rfl rfl (by kernel_rfl) (by kernel_rfl) (by kernel_rfl) (fun _ _ _ h => h) (by rfl) ?hy3 (by assumption) ?_
  case hy3 => intro W hSW; (try dsimp only at hSW); go_simp; (try with_reducible rfl)
  try simp only [Act.put, bP, bQ, bT]
  refine rg_take 4 (some 21) (v := ?v4) rfl rfl (by kernel_rfl) (by kernel_rfl) (by kernel_rfl) (fun _ _ _ h => h) (by rfl) ?hy4 (by assumption) ?_
  case hy4 => intro W hSW; (try dsimp only at hSW); go_simp; (try with_reducible rfl)
  try simp only [Act.put, bP, bQ, bT]
  refine rg_one 2 rfl (by kernel_rfl) (by rfl) (fun K hK => ?_)
  have hna : n ≤ 140737488351232 := hl
  have hn4 : n * 32 ≤ 140737488351232 := by have e := h.out.1; have := hMh.out; rw [smay_r] at this; unfold opsV at this; simp only [Bool.and_eq_true, decide_eq_true_eq] at this; omega
  have kO := Lib.hid (cloneO_any a n c os we (Lib.hid (h.out.below hV6.out.2.2.2.2.2.2)) hn4)
  have hwe := hV6.out.2.2.2.2.2.2.size
  go_simp
  (go_at_call 23; refine kO.out.mono ?_; rintro e wd ⟨vO, rfl, hvO, hb⟩)
  have hV9 := Lib.hid (hV6.out.below hb)
  have hk9 := Lib.hid (hk6.out.below hb)
  have hH : wd.cell? ⟨w.heap.size, 0, none⟩ = some (.slice a n c) ∧ wd.cell? ⟨w1.heap.size, 1, none⟩ = some (.slice ma m.length mc) := ⟨hV9.out.2.1, hk9.out.cm⟩
  obtain ⟨ao, no, co, hvs⟩ : ∃ a n c, vO = .slice a n c := by rcases hvO.cases with ⟨e, _⟩ | ⟨g, c, e, _⟩ <;> exact ⟨_, _, _, e⟩
  subst hvs
  refine hK.out _ _ hH (fun hHeld => ?_)
  clear hK K kO hb hH
  try simp only [Act.put, bP, bQ, bT]
  refine rg_take 5 (some 22) (v := ?v5) rfl rfl (by kernel_rfl) (by kernel_rfl) (by kernel_rfl) (fun _ _ _ h => h) (by rfl) ?hy5 (by assumption) ?_
  case hy5 => intro W hSW; (try dsimp only at hSW); go_simp; (try with_reducible rfl)
  try simp only [Act.put, bP, bQ, bT]
  have hO9 := Lib.hid hvO
  have hr2 : ¬ w.heap.size = w.heap.size + 1 := by omega
  have hr1 : ¬ w1.heap.size = w.heap.size + 1 := by omega
  refine rg_one 6 rfl (by kernel_rfl) (by rfl) (fun K hK => ?_)
  obtain ⟨v0, v1, v2, v3, v4, v5, v6⟩ := hV9.out
  have hv5 := v5 0
  have hv6 := v5 1
  obtain ⟨s0, s1, s2⟩ := two_set v3 v4 (.slice ao no co) (.slice ma m.length mc)
  have hfin : Hid (Below w.heap.size w ((wd.setCell ⟨w.heap.size + 1, 0, none⟩ (.slice ao no co)).setCell ⟨w.heap.size + 1, 1, none⟩ (.slice ma m.length mc))) := Lib.hid ((v6.setCell (by show w.heap.size ≤ w.heap.size + 1; omega) _).setCell (by show w.heap.size ≤ w.heap.size + 1; omega) _)
  go_simp
  refine hK.out _ _ ⟨s2.cell hHeld.1 hr2, s2.cell hHeld.2 hr1⟩ (fun hHeldS => ?_)
  clear hK K hHeld v0 v1 v2 v3 v4 v5 v6 hv5 hv6
  try simp only [Act.put, bP, bQ, bT]
  refine rg_take 7 (some 3) (v := ?v6) rfl rfl (by kernel_rfl) (by kernel_rfl) (by kernel_rfl) (fun _ _ _ h => h) (by rfl) ?hy6 (by assumption) ?_
  case hy6 => intro W hSW; (try dsimp only at hSW); go_simp; (try with_reducible rfl)
  try simp only [Act.put, bP, bQ, bT]
  refine wpAnyH_done (by kernel_rfl) ?_ _
  have hON := hO9.out
  have hfo : OwnO w.heap.size ((wd.setCell ⟨w.heap.size + 1, 0, none⟩ (.slice ao no co)).setCell ⟨w.heap.size + 1, 1, none⟩ (.slice ma m.length mc)) (.slice ao no co) os := by
   refine Bar.own s2 ⟨hON.1, ?_⟩ (fun k hk e => ?_)
   ·rcases hON.2 with e | ⟨g, cap, cur, e1, e2, e3⟩
    ·exact .inl e
    ·exact .inr ⟨g, cap, cur, e1, by omega, e3⟩
   ·have := (own_lt hON k hk).1
    have := hV6.out.1
    have e : k = w.heap.size + 1 := e
    omega
  have hMN := hk9.out.own
  have hfn : OwnN w.heap.size ((wd.setCell ⟨w.heap.size + 1, 0, none⟩ (.slice ao no co)).setCell ⟨w.heap.size + 1, 1, none⟩ (.slice ma m.length mc)) (.slice ma m.length mc) m := by
   refine Bar.own s2 ⟨hMN.1, ?_⟩ (fun k hk e => ?_)
   ·rcases hMN.2 with e | ⟨g, cap, cur, e1, e2, e3⟩
    ·exact .inl e
    ·exact .inr ⟨g, cap, cur, e1, by omega, e3⟩
   ·have := (own_lt hMN k hk).1
    have e : k = w.heap.size + 1 := e
    omega
  have hfo := Lib.hid hfo
  have hfn := Lib.hid hfn
  go_wp2_with fail
  exact bodyPost_ret (v := .tuple #[.agg #[.slice ao no co, .slice ma m.length mc], .int .i64 0]) (by simp [results, Tryz.results8, go_sem, s0, s1]) rfl ⟨hfin.out, .inr ⟨hMh.out, _, _, rfl, hfo.out, by rw [hmh.out]; exact hfn.out⟩⟩
open Go.RowKit
theorem smay_sz {os : List Or} {ts : List Nd} (h : smayV os ts = true) : ∀ t ∈ ts, NdSz t := by
 rw [smay_c] at h
 simp only [Bool.and_eq_true, List.all_eq_true] at h
 intro t ht
 have hb := h.2.2.1 t ht
 unfold bareC at hb
 simp only [Bool.and_eq_true, beq_iff_eq] at hb
 have z : ∀ x : ByteArray, x.data.toList = [] → x.size ≤ 1125899906842624 := fun x hx => by
  have : x.data = #[] := by simpa using hx
  simp [ByteArray.size, this]
 exact ⟨z _ hb.1, z _ hb.2.1, z _ hb.2.2.1, z _ hb.2.2.2⟩
theorem smay_len {os : List Or} {ts : List Nd} (h : smayV os ts = true) : ts.length ≤ 512 ∧ os.length ≤ 4 := by
 have hT := tre_may h
 rw [smay_r] at h
 unfold opsV at h
 simp only [Bool.and_eq_true, decide_eq_true_eq] at h
 exact ⟨hT.len.2, by omega⟩
def eqNd (t u : Nd) : Bool := decide (t.k = u.k) && (decide (t.a = u.a) && (decide (t.b = u.b) && (decide (t.c = u.c) && (decide (t.n = u.n) && (decide (t.p = u.p) && ((t.nm.data.toList == u.nm.data.toList) && ((t.x.data.toList == u.x.data.toList) && ((t.y.data.toList == u.y.data.toList) && (t.z.data.toList == u.z.data.toList)))))))))
theorem eqNd_eq {t u : Nd} (h : eqNd t u = true) : t = u := by
 unfold eqNd at h
 simp only [Bool.and_eq_true, decide_eq_true_eq, beq_iff_eq] at h
 obtain ⟨h1, h2, h3, h4, h5, h6, h7, h8, h9, h10⟩ := h
 have e : ∀ x y : ByteArray, x.data.toList = y.data.toList → x = y := fun x y h => ba_ext h
 cases t; cases u
 simp only at h1 h2 h3 h4 h5 h6 h7 h8 h9 h10
 rw [h1, h2, h3, h4, h5, h6, e _ _ h7, e _ _ h8, e _ _ h9, e _ _ h10]
def eqRow : List Nd → List Nd → Bool
 | [], [] => true
 | t :: ts, u :: us => eqNd t u && eqRow ts us
 | _, _ => false
theorem eqRow_eq : ∀ {ts us : List Nd}, eqRow ts us = true → ts = us
 | [], [], _ => rfl
 | t :: ts, u :: us, h => by
  unfold eqRow at h
  rw [Bool.and_eq_true] at h
  rw [eqNd_eq h.1, eqRow_eq h.2]
theorem td_ok {os : List Or} {ts : List Nd} {w w' : World} {e : Ending} (h : TdPost os ts w e w') (hm : smayV os ts = true) : ∃ ao co an cn, e = .returned (.tuple #[.agg #[.slice ao os.length co, .slice an (td ts (ts.length - 1) []).length cn], .int .i64 0]) ∧ Below w.heap.size w w' ∧ OwnO w.heap.size w' (.slice ao os.length co) os ∧ OwnN w.heap.size w' (.slice an (td ts (ts.length - 1) []).length cn) (td ts (ts.length - 1) []) := by
 obtain ⟨hb, ⟨h1, _⟩ | ⟨_, vo, vn, rfl, h2, h3⟩⟩ := h
 ·rw [hm] at h1; cases h1
 obtain ⟨a, c, rfl⟩ := owno_sl h2
 obtain ⟨a2, c2, rfl⟩ := own_sl h3
 exact ⟨a, c, a2, c2, rfl, hb, h2, h3⟩
theorem td_no {os : List Or} {ts : List Nd} {w w' : World} {e : Ending} (h : TdPost os ts w e w') (hm : smayV os ts = false) : e = .returned (.tuple #[.agg #[.slice none 0 0, .slice none 0 0], .int .i64 2500]) ∧ Below w.heap.size w w' := by
 obtain ⟨hb, ⟨_, h1⟩ | ⟨h1, _⟩⟩ := h
 ·exact ⟨h1, hb⟩
 ·rw [hm] at h1; cases h1
theorem own_none {B : Nat} {w : World} {a : Option Addr} {n c : Nat} {l : List Or} (h : OwnO B w (.slice a n c) l) : a = none → c = 0 := by
 rintro rfl
 rcases h.cases with ⟨h, _⟩ | ⟨g, c, h, _⟩ <;> injection h with h1 h2 h3
 cases h1
theorem rread_any (s : ByteArray) (os : List Or) (ns ss : List Nd) (w : World) (hs : s.size ≤ 1125899906842624) (hp : Hid (parseV s = .ok (os, ns))) (hr : Hid (resV os ns = .ok ss)) :
    Calls Tryz.prog 15 #[.string s] w fun e w' => ∃ ao co N cn, e = .returned (.tuple #[.agg #[.slice ao os.length co, .slice (some ⟨N, 0, none⟩) ss.length cn], .bool true]) ∧ Below w.heap.size w w' ∧ OArg w' ao os.length os ∧ (ao = none → co = 0) ∧ NArg w' (some ⟨N, 0, none⟩) ss.length ss := by
  have hk := parse_k hp.out
  have hl1 := hk.l1
  have hol := hk.ol
  have kP := Lib.hid fun (W : World) => rParse_any s W hs
  have kR := Lib.hid fun (W : World) (a a2 : Option Addr) (c c2 : Nat) (h1 : OArg W a os.length os) (hc : a = none → c = 0) (h2 : NArg W a2 ns.length ns) => rResolve_any a a2 os.length c ns.length c2 os ns W (Lib.hid h1) hc (Lib.hid hk.oz) (by omega) (Lib.hid h2) (Lib.hid hk.sz) (by omega)
  clear hk hl1 hol hs
  go_enter Tryz.func15, Tryz.ntmps15
  go_wp2_with fail
  refine (kP.out _).mono ?_
  intro e w1 hpost
  obtain ⟨a, c, a2, c2, rfl, hb1, ho, hn⟩ := prp_ok hpost hp.out
  have q0 : ∀ i, i < 2 → w1.cell? ⟨w.heap.size, i, none⟩ = some (.slice none 0 0) := fun i hi => by
    have hcs : i = 0 ∨ i = 1 := by omega
    rcases hcs with rfl | rfl <;> exact carry hb1 (by simp) (by simp [go_sem])
  have qf : ∀ i, w1.frozen? ⟨w.heap.size, i, none⟩ = false := fun i => (hb1.frozen (p := ⟨w.heap.size, i, none⟩) (by simp)).trans (by simp [go_sem])
  have hB1 : Below w.heap.size w w1 := belT (show Below w.heap.size w _ from below_alc _ _) hb1
  have hl1 : w.heap.size < w1.heap.size := Nat.lt_of_lt_of_le (by simp) hb1.size
  have hc := own_none ho
  have hO := Lib.hid ho.arg
  have hN := Lib.hid hn.arg
  clear hpost hb1 ho hn kP
  have hB1 := Lib.hid hB1
  have q0 := Lib.hid q0
  have qf := Lib.hid qf
  go_wp2_with fail
  refine (kR.out _ a a2 c c2 (hO.out.below (below_alc _ _)) hc (hN.out.below (below_alc _ _))).mono ?_
  intro e w2 hpost
  obtain ⟨ao, co, N, cn, rfl, hb2, hown, hN1, hN2, hsl⟩ := res_ok hpost hr.out
  have hb3 := belT (show Below w1.heap.size w1 _ from below_alc _ _) hb2
  have p0 : w2.cell? ⟨w.heap.size, 0, none⟩ = _ := carry hb3 hl1 (q0.out 0 (by omega))
  have p1 : w2.cell? ⟨w.heap.size, 1, none⟩ = _ := carry hb3 hl1 (q0.out 1 (by omega))
  have pf : ∀ i, w2.frozen? ⟨w.heap.size, i, none⟩ = false := fun i => (hb3.frozen (p := ⟨w.heap.size, i, none⟩) hl1).trans (qf.out i)
  have pf0 := pf 0
  have pf1 := pf 1
  have hB2 := Lib.hid (belT hB1.out hb3)
  have hl2 : w.heap.size < w2.heap.size := Nat.lt_of_lt_of_le hl1 hb3.size
  have hO2 := Lib.hid hown.arg
  have hN3 := Lib.hid (show NArg w2 (some ⟨N, 0, none⟩) ss.length ss from ⟨rfl, .inr ⟨N, 0, rfl, hsl, hN2⟩⟩)
  have hco := own_none hown
  have hNw : w.heap.size < N := by have : w1.heap.size < (w1.alloc (.cells #[.slice a os.length c, .slice a2 ns.length c2] 25)).heap.size := by simp; 
                                   omega
  have hOb : ∀ b off, ao = some ⟨b, off, none⟩ → w.heap.size < b := by
    intro b off hb'
    rcases hown.cases with ⟨h, _⟩ | ⟨g, c9, h, hg', _⟩
    · injection h with h _ _; rw [h] at hb'; cases hb'
    · injection h with h _ _; rw [h] at hb'; injection hb' with hb'; injection hb' with hb' _ _
      have : w1.heap.size < (w1.alloc (.cells #[.slice a os.length c, .slice a2 ns.length c2] 25)).heap.size := by simp
      omega
  clear hpost hb2 hb3 hown hsl q0 qf pf kR hO hN hB1
  have hOb := Lib.hid hOb
  go_wp2_with fail
  refine bodyPost_ret (v := .tuple #[.agg #[.slice ao os.length co, .slice (some ⟨N, 0, none⟩) ss.length cn], .bool true]) (by simp [results, Tryz.results15, go_sem, p0, p1, pf0, pf1, hl2]) rfl ?_
  obtain ⟨s0, s1, s2⟩ := two_set p0 p1 (.slice ao os.length co) (.slice (some ⟨N, 0, none⟩) ss.length cn)
  have hfin : Below w.heap.size w (w2.setCell ⟨w.heap.size, 0, none⟩ (.slice ao os.length co)) := hB2.out.setCell (Nat.le_refl _) _
  have hO4 := hO2.out.bar s2 (fun b off e h => by have := hOb.out b off e; have h : b = w.heap.size := h; omega)
  have hN4 := hN3.out.bar s2 (fun h => by have h : N = w.heap.size := h; omega)
  exact ⟨ao, co, N, cn, rfl, belT (hfin.setCell (Nat.le_refl _) _) (below_alc _ _), hO4.below (below_alc _ _), hco, hN4.below (below_alc _ _)⟩
def aw25a : List UInt8 := [105, 102, 32, 49, 32, 60, 32, 50, 32, 116, 104, 101, 110, 32, 102, 117, 110, 32, 120, 32, 45, 62, 32, 120, 32, 43, 32, 40, 50, 32, 42, 32, 51, 41, 32, 101, 108, 115, 101, 32, 49, 32, 47, 32, 48]
def aw25b : List UInt8 := [49, 32, 45, 32, 50]
def aw25A : Bool := match parseV (bs aw25a) with
 | .ok a => (match resVC a.1 a.2 with
  | .ok ss => decide ((td ss (ss.length - 1) []).length = 4) && (decide (((td ss (ss.length - 1) []).getD 1 nd0).k = 1) && (decide (((td ss (ss.length - 1) []).getD 1 nd0).n = 6) && decide (((td ss (ss.length - 1) []).getD 3 nd0).k = 3)))
  | .error _ => false)
 | .error _ => false
theorem aw25A_ok : aw25A = true := by decide +kernel
theorem aw25_1 : ∃ os ns ss, parseV (bs aw25a) = .ok (os, ns) ∧ resV os ns = .ok ss ∧ (td ss (ss.length - 1) []).length = 4 ∧ ((td ss (ss.length - 1) []).getD 1 nd0).k = 1 ∧ ((td ss (ss.length - 1) []).getD 1 nd0).n = 6 ∧ ((td ss (ss.length - 1) []).getD 3 nd0).k = 3 := by
 have h := aw25A_ok
 unfold aw25A at h
 split at h
 ·rename_i a ha
  split at h
  ·rename_i ss hs
   simp only [Bool.and_eq_true, decide_eq_true_eq] at h
   exact ⟨a.1, a.2, ss, ha, by rw [resV_c]; exact hs, h.1, h.2.1, h.2.2.1, h.2.2.2⟩
  ·cases h
 ·cases h
def aw25B : Bool := match parseV (bs aw25b) with
 | .ok a => (match resVC a.1 a.2 with
  | .ok ss => eqRow (td ss (ss.length - 1) []) ss
  | .error _ => false)
 | .error _ => false
theorem aw25B_ok : aw25B = true := by decide +kernel
theorem aw25_2 : ∃ os ns ss, parseV (bs aw25b) = .ok (os, ns) ∧ resV os ns = .ok ss ∧ td ss (ss.length - 1) [] = ss := by
 have h := aw25B_ok
 unfold aw25B at h
 split at h
 ·rename_i a ha
  split at h
  ·rename_i ss hs
   exact ⟨a.1, a.2, ss, ha, by rw [resV_c]; exact hs, eqRow_eq h⟩
  ·cases h
 ·cases h
theorem aw25a_sz : (bs aw25a).size ≤ 1125899906842624 := by rw [bs_size]; decide
theorem aw25b_sz : (bs aw25b).size ≤ 1125899906842624 := by rw [bs_size]; decide
theorem aw25_3 : smayV [] [] = false := by rw [smay_c]; decide +kernel
open Go.RowKit
theorem awake25_any (w : World) (hg : Hid (errTy w)) : Calls Tryz.prog 14 #[] w fun e w' => e = .returned (.bool true) ∧ Below w.heap.size w w' := by
 obtain ⟨os1, ns1, ss1, hp1, hr1, hl1, ha1, hb1, hc1⟩ := aw25_1
 obtain ⟨os2, ns2, ss2, hp2, hr2, hq2⟩ := aw25_2
 obtain ⟨-, hm1, -⟩ := shape_ok hr1
 obtain ⟨-, hm2, -⟩ := shape_ok hr2
 have hs1 := smay_len hm1
 have hs2 := smay_len hm2
 have kR1 := Lib.hid fun (W : World) => rread_any (bs aw25a) os1 ns1 ss1 W aw25a_sz (Lib.hid hp1) (Lib.hid hr1)
 have kR2 := Lib.hid fun (W : World) => rread_any (bs aw25b) os2 ns2 ss2 W aw25b_sz (Lib.hid hp2) (Lib.hid hr2)
 have kT1 := Lib.hid fun (W : World) (hb : Below w.heap.size w W) (a a2 : Option Addr) (c c2 : Nat) (h1 : OArg W a os1.length os1) (h2 : NArg W a2 ss1.length ss1) => (tidy_any a a2 os1.length c ss1.length c2 os1 ss1 W (Lib.hid h1) (Lib.hid (parse_k hp1).oz) (by omega) (Lib.hid h2) (Lib.hid (smay_sz hm1)) (by omega) (Lib.hid (errTy_below hg.out hb))).mono fun e w' h => td_ok h hm1
 have kT2 := Lib.hid fun (W : World) (hb : Below w.heap.size w W) (a a2 : Option Addr) (c c2 : Nat) (h1 : OArg W a os2.length os2) (h2 : NArg W a2 ss2.length ss2) => (tidy_any a a2 os2.length c ss2.length c2 os2 ss2 W (Lib.hid h1) (Lib.hid (parse_k hp2).oz) (by omega) (Lib.hid h2) (Lib.hid (smay_sz hm2)) (by omega) (Lib.hid (errTy_below hg.out hb))).mono fun e w' h => td_ok h hm2
 have kT0 := Lib.hid fun (W : World) (hb : Below w.heap.size w W) => (tidy_any none none 0 0 0 0 [] [] W (Lib.hid (oarg0 _ _)) (Lib.hid or_sz0) (by omega) (Lib.hid (narg0 _ _)) (Lib.hid nd_sz0) (by omega) (Lib.hid (errTy_below hg.out hb))).mono fun e w' h => td_no h aw25_3
 rw [hq2] at kT2
 obtain ⟨q1, hq1⟩ : ∃ r, td ss1 (ss1.length - 1) [] = r := ⟨_, rfl⟩
 rw [hq1] at hl1 ha1 hb1 hc1 kT1
 clear hp1 hr1 hp2 hr2 hq2 hm1 hm2 hq1
 have hlq := Lib.hid hl1
 rw [hl1] at kT1
 have ha1 := Lib.hid ha1; have hb1 := Lib.hid hb1; have hc1 := Lib.hid hc1
 have hs1 := Lib.hid hs1; have hs2 := Lib.hid hs2
 clear hl1
 go_enter Tryz.func14, Tryz.ntmps14
 go_wp2_with fail
 refine (kR1.out _).mono ?_
 rintro e w1 ⟨ao, co, N, cn, rfl, hB1, hO1, _, hN1⟩
 have hB1 := Lib.hid hB1; have hO1 := Lib.hid hO1; have hN1 := Lib.hid hN1
 clear kR1
 go_wp2_with fail
 refine (kT1.out _ (belT hB1.out (below_alc _ _)) ao _ co cn (hO1.out.below (below_alc _ _)) (hN1.out.below (below_alc _ _))).mono ?_
 rintro e w2 ⟨a3, c3, a4, c4, rfl, hb2, hO2, hN2⟩
 have hB2 := Lib.hid (belT hB1.out (belT (show Below w1.heap.size w1 _ from below_alc _ _) hb2))
 have hN2b : OwnN (w1.alloc (.cells #[.slice ao os1.length co, .slice (some ⟨N, 0, none⟩) ss1.length cn] 25)).heap.size w2 (.slice a4 q1.length c4) q1 := by rw [hlq.out]; exact hN2
 obtain ⟨g, hge, _, hgs, _, hgc, hS⟩ := own_at hN2b (p := 3) (by have := hlq.out; omega)
 subst hge
 have t1 := (hS 1 (by have := hlq.out; omega)).1
 have t2 := (hS 1 (by have := hlq.out; omega)).2.2.2.2.1
 have t3 := (hS 3 (by have := hlq.out; omega)).1
 rw [ha1.out] at t1
 rw [hb1.out] at t2
 rw [hc1.out] at t3
 simp only [Nat.zero_add, Nat.one_mul, Nat.add_zero, Nat.reduceMul, Nat.reduceAdd] at t1 t2 t3
 clear kT1 hb2 hO2 hN2 hN2b hS hB1 hO1 hN1
 go_wp2_with fail
 refine (kR2.out _).mono ?_
 rintro e w3 ⟨ao5, co5, N5, cn5, rfl, hb3, hO3, _, hN3⟩
 have hl3 : w2.heap.size < w3.heap.size := Nat.lt_of_lt_of_le (by simp) hb3.size
 have p1 : w3.cell? ⟨w2.heap.size, 1, none⟩ = some (.slice (some ⟨g, 0, none⟩) 4 c4) := carry hb3 (by simp) (by simp [go_sem])
 have hb3' := belT (show Below w2.heap.size w2 _ from below_alc _ _) hb3
 have t1 := carry hb3' hgs t1; have t2 := carry hb3' hgs t2; have t3 := carry hb3' hgs t3
 have hgs3 : g < w3.heap.size := Nat.lt_of_lt_of_le hgs hb3'.size
 have hB3 := Lib.hid (belT hB2.out hb3')
 have hO3 := Lib.hid hO3; have hN3 := Lib.hid hN3
 clear kR2 hb3 hb3' hB2
 go_wp2_with fail
 refine (kT2.out _ (belT hB3.out (below_alc _ _)) ao5 _ co5 cn5 (hO3.out.below (below_alc _ _)) (hN3.out.below (below_alc _ _))).mono ?_
 rintro e w4 ⟨a7, c7, a8, c8, rfl, hb4, hO4, hN4⟩
 have hl4 : w3.heap.size < w4.heap.size := Nat.lt_of_lt_of_le (by simp) hb4.size
 have r0 : w4.cell? ⟨w3.heap.size, 0, none⟩ = some (.slice ao5 os2.length co5) := carry hb4 (by simp) (by simp [go_sem])
 have r1 : w4.cell? ⟨w3.heap.size, 1, none⟩ = some (.slice (some ⟨N5, 0, none⟩) ss2.length cn5) := carry hb4 (by simp) (by simp [go_sem])
 have hb4' := belT (show Below w3.heap.size w3 _ from below_alc _ _) hb4
 have p1 := carry hb4' hl3 p1
 have t1 := carry hb4' hgs3 t1; have t2 := carry hb4' hgs3 t2; have t3 := carry hb4' hgs3 t3
 have hO3 := Lib.hid (hO3.out.below hb4'); have hN3 := Lib.hid (hN3.out.below hb4')
 have hB4 := Lib.hid (belT hB3.out hb4')
 have hO4 := Lib.hid hO4.arg; have hN4 := Lib.hid hN4.arg
 have hgs4 : g < w4.heap.size := Nat.lt_of_lt_of_le hgs3 hb4'.size
 have hl24 : w2.heap.size < w4.heap.size := Nat.lt_trans hl3 hl4
 clear kT2 hb4 hb4' hB3
 go_wp2_with fail
 refine (kT0.out _ (belT hB4.out (below_alc _ _))).mono ?_
 rintro e w5 ⟨rfl, hb5⟩
 have s0 : w5.cell? ⟨w4.heap.size, 0, none⟩ = some (.slice a7 os2.length c7) := carry hb5 (by simp) (by simp [go_sem])
 have s1 : w5.cell? ⟨w4.heap.size, 1, none⟩ = some (.slice a8 ss2.length c8) := carry hb5 (by simp) (by simp [go_sem])
 have hl5 : w4.heap.size < w5.heap.size := Nat.lt_of_lt_of_le (by simp) hb5.size
 have hb5' := belT (show Below w4.heap.size w4 _ from below_alc _ _) hb5
 have p1 := carry hb5' hl24 p1
 have r0 := carry hb5' hl4 r0; have r1 := carry hb5' hl4 r1
 have t1 := carry hb5' hgs4 t1; have t2 := carry hb5' hgs4 t2; have t3 := carry hb5' hgs4 t3
 have hO3 := Lib.hid (hO3.out.below hb5'); have hN3 := Lib.hid (hN3.out.below hb5')
 have hO4 := Lib.hid (hO4.out.below hb5'); have hN4 := Lib.hid (hN4.out.below hb5')
 have hB5 := Lib.hid (belT hB4.out hb5')
 have hgs5 : g < w5.heap.size := Nat.lt_of_lt_of_le hgs4 hb5'.size
 have hl25 : w2.heap.size < w5.heap.size := Nat.lt_trans hl24 hl5
 have hl35 : w3.heap.size < w5.heap.size := Nat.lt_trans hl4 hl5
 have hl5b := hs2.out.1; have hl5o := hs2.out.2
 have kS := Lib.hid fun (W : World) (hb : Below w5.heap.size w5 W) => sameProg_any a7 a8 ao5 (some ⟨N5, 0, none⟩) os2.length c7 ss2.length c8 os2.length co5 ss2.length cn5 os2 ss2 W (Lib.hid (hO4.out.below hb)) (Lib.hid (hN4.out.below hb)) (Lib.hid (hO3.out.below hb)) (Lib.hid (hN3.out.below hb)) (by omega) (by omega)
 clear kT0 hb5 hb5' hB4 hl3 hl4 hl24 hgs hgs3 hgs4
 go_wp2_with (first | (go_at_call 11; refine (num_any _ _ (by omega) (by omega)).mono ?_; rintro e w' ⟨rfl, rfl⟩) | (go_at_call 10; refine (kS.out _ (by (repeat' (first | (with_reducible first | exact bR _ _ | assumption | apply bS | apply bA | apply bD | apply bN | exact bL _) | (simp; done) | (simp; omega) | omega | exact bL _)))).mono ?_; rintro e w6 ⟨rfl, hb6⟩; have hB6 := Lib.hid (belT hB5.out (belT (show Below w5.heap.size w5 _ from by (repeat' (first | (with_reducible first | exact bR _ _ | assumption | apply bS | apply bA | apply bD | apply bN | exact bL _) | (simp; done) | (simp; omega) | omega | exact bL _))) hb6)); clear hb6 kS p1 r0 r1 s0 s1 t1 t2 t3))
 go_ret
 exact ⟨rfl, hB6.out⟩
end Go.Proofs.YthpcbgljbpmafaaGreatDoor
