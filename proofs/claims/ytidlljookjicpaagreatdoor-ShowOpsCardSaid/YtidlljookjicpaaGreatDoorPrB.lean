/- The program's parser: which error it is. -/
import Derived.Test.YtidlljookjicpaaGreatDoorPwS
import Derived.Test.YtidlljookjicpaaGreatDoorPrA
import Derived.Test.YtidlljookjicpaaGreatDoorPqA
import Derived.Test.YtidlljookjicpaaGreatDoorLxG
import Derived.Test.YtidlljookjicpaaGreatDoorLxV
import Derived.Deep.RegionWith
import Derived.Test.YtidlljookjicpaaGreatDoorNdCo
import Derived.Test.YtidlljookjicpaaGreatDoorPrg
import Derived.Test.YtidlljookjicpaaGreatDoorMay
import Derived.Test.YtidlljookjicpaaGreatDoorPaP
import Derived.Test.YtidlljookjicpaaGreatDoorLxY
/- The program's parser: which error it is. -/
/- The program's parser: which error it is. -/
namespace Go.Proofs.YtidlljookjicpaaGreatDoor
open Go.RowKit
set_option linter.unusedVariables false
set_option linter.unusedSimpArgs false

set_option maxRecDepth 100000 in
set_option maxHeartbeats 4000000 in
theorem code_any (F : Nat) (v : Value) (c : Int) (w : World) (hg : Hid (errTy w)) (h1 : Hid (w.cell? ⟨F, 1, none⟩ = some v)) (hF : F < w.heap.size) (hv : ErIn v c) :
    Calls Tryz.prog 35 #[.iface 73 (.pointer (some ⟨F, 0, none⟩))] w fun e w' => e = .returned (.int .i64 c) ∧ Below w.heap.size w w' := by
  have h0l := hgl hg.out
  rcases hv with ⟨rfl, g, rfl⟩ | ⟨hc, rfl⟩
  · go_enter Tryz.func35, Tryz.ntmps35
    go_wp2_with fail
    refine (PwA.as_in F ⟨g, 0, none⟩ ⟨w.heap.size, 0, none⟩ (.pointer none) _ (errTy_below hg.out (by (repeat' (first | with_reducible exact Below.refl _ _ | with_reducible assumption | with_reducible apply Below.setCell | with_reducible apply Below.alloc | with_reducible apply Below.drew | with_reducible apply below_drewN | with_reducible exact Nat.le_refl _ | (simp; done) | (simp; omega) | omega | exact Nat.le_refl _)))) (by rw [World.cell?_alloc_lt _ _ ⟨F, 1, none⟩ hF]; exact h1.out) (by simp) (by simp)).mono ?_
    rintro e w1 ⟨rfl, W0, hW0, hw1⟩
    have hb1 := Lib.hid (show Below w.heap.size w w1 from by rw [hw1]; exact set_below (by (repeat' (first | with_reducible exact Below.refl _ _ | with_reducible assumption | with_reducible apply Below.setCell | with_reducible apply Below.alloc | with_reducible apply Below.drew | with_reducible apply below_drewN | with_reducible exact Nat.le_refl _ | (simp; done) | (simp; omega) | omega | exact Nat.le_refl _))) hW0 (by simp) (by simp))
    clear hw1 hW0
    go_wp2_with fail
    go_ret
    exact ⟨rfl, hb1.out⟩
  · have hc := Lib.hid hc
    go_enter Tryz.func35, Tryz.ntmps35
    go_wp2_with fail
    refine (PwA.as_out F c ⟨w.heap.size, 0, none⟩ (.pointer none) _ (errTy_below hg.out (by (repeat' (first | with_reducible exact Below.refl _ _ | with_reducible assumption | with_reducible apply Below.setCell | with_reducible apply Below.alloc | with_reducible apply Below.drew | with_reducible apply below_drewN | with_reducible exact Nat.le_refl _ | (simp; done) | (simp; omega) | omega | exact Nat.le_refl _)))) (by rw [World.cell?_alloc_lt _ _ ⟨F, 1, none⟩ hF]; exact h1.out) (by simp) (by simp)).mono ?_
    rintro e w1 ⟨rfl, hb1⟩
    have hb1 := Lib.hid (show Below w.heap.size w w1 from belT (below_alc w _) hb1)
    have hs1 := hb1.out.size
    have hg1 := Lib.hid (errTy_below hg.out hb1.out)
    have h1' := Lib.hid (carry hb1.out hF h1.out)
    go_wp2_with fail
    refine (PsA.as_wrap F c ⟨w1.heap.size, 0, none⟩ (.int .i64 0) _ (errTy_below hg1.out (by (repeat' (first | with_reducible exact Below.refl _ _ | with_reducible assumption | with_reducible apply Below.setCell | with_reducible apply Below.alloc | with_reducible apply Below.drew | with_reducible apply below_drewN | with_reducible exact Nat.le_refl _ | (simp; done) | (simp; omega) | omega | exact Nat.le_refl _)))) (by rw [World.cell?_alloc_lt _ _ ⟨F, 1, none⟩ (by show F < _; omega)]; exact h1'.out) (by simp) (by simp)).mono ?_
    rintro e w2 ⟨rfl, W0, hW0, hw2⟩
    have hc2 : w2.cell? ⟨w1.heap.size, 0, none⟩ = some (.int .i64 c) := by rw [hw2]; exact set_old hW0 (by simp) (by simp; rfl)
    have hb2 := Lib.hid (show Below w1.heap.size w1 w2 from by rw [hw2]; exact set_below (by (repeat' (first | with_reducible exact Below.refl _ _ | with_reducible assumption | with_reducible apply Below.setCell | with_reducible apply Below.alloc | with_reducible apply Below.drew | with_reducible apply below_drewN | with_reducible exact Nat.le_refl _ | (simp; done) | (simp; omega) | omega | exact Nat.le_refl _))) hW0 (by simp) (by simp))
    clear hw2 hW0
    go_wp2_with fail
    go_ret
    exact ⟨rfl, belT hb1.out hb2.out⟩
end Go.Proofs.YtidlljookjicpaaGreatDoor

/- The program's parser: Parse. -/
namespace Go.Proofs.YtidlljookjicpaaGreatDoor
open Go.RowKit
set_option linter.unusedVariables false
set_option linter.unusedSimpArgs false

theorem owns_mono {w : World} {B B' : Nat} {e : TypeId} {s : Nat} {v : Value} {n : Nat} {xs : List Value} (h : w.ownsRow B e s v n xs) (hb : B' ≤ B) : w.ownsRow B' e s v n xs := by
  refine ⟨h.1, ?_⟩
  rcases h.2 with h0 | ⟨g, cap, cur, rfl, hB, rest⟩
  · exact .inl h0
  · exact .inr ⟨g, cap, cur, rfl, Nat.le_trans hb hB, rest⟩
/-- what a text comes to. -/
def PrR (R : Except PE (List Or × List Nd)) (ov nv : Value) (os : List Or) (ns : List Nd) (pl er : Int) : Prop := match R with
  | .ok p => os = p.1 ∧ ns = p.2 ∧ pl = 0 ∧ er = 0
  | .error x => ov = .slice none 0 0 ∧ nv = .slice none 0 0 ∧ os = [] ∧ ns = [] ∧ pl = x.2 ∧ er = x.1
def PrP (R : Except PE (List Or × List Nd)) (w : World) (e : Ending) (w' : World) : Prop := ∃ ov nv os ns pl er, e = .returned (.tuple #[.agg #[ov, nv], .int .i64 pl, .int .i64 er]) ∧ OwnO w.heap.size w' ov os ∧ OwnN w.heap.size w' nv ns ∧ Below w.heap.size w w' ∧ PrR R ov nv os ns pl er
theorem prp_ok {R : Except PE (List Or × List Nd)} {w w' : World} {e : Ending} {os : List Or} {ns : List Nd} (h : PrP R w e w') (hr : R = .ok (os, ns)) : ∃ a c a2 c2, e = .returned (.tuple #[.agg #[.slice a os.length c, .slice a2 ns.length c2], .int .i64 0, .int .i64 0]) ∧ Below w.heap.size w w' ∧ OwnO w.heap.size w' (.slice a os.length c) os ∧ OwnN w.heap.size w' (.slice a2 ns.length c2) ns := by
  subst hr
  obtain ⟨ov, nv, os, ns, pl, er, rfl, ho, hn, hb, rfl, rfl, rfl, rfl⟩ := h
  obtain ⟨a, c, rfl⟩ := owno_sl ho
  obtain ⟨a2, c2, rfl⟩ := own_sl hn
  exact ⟨a, c, a2, c2, rfl, hb, ho, hn⟩
theorem prp_no {R : Except PE (List Or × List Nd)} {w w' : World} {e : Ending} {x : PE} (h : PrP R w e w') (hr : R = .error x) : e = .returned (.tuple #[.agg #[.slice none 0 0, .slice none 0 0], .int .i64 x.2, .int .i64 x.1]) ∧ Below w.heap.size w w' := by
  subst hr
  obtain ⟨ov, nv, os, ns, pl, er, rfl, ho, hn, hb, rfl, rfl, rfl, rfl, rfl, rfl⟩ := h
  exact ⟨rfl, hb⟩
/-- the parser's object, laid. -/
theorem pq_start {w1 : World} {b : Nat} {v : Value} {ts : List Tk} (en : Int) (hK : OwnK b w1 v ts) (hl : ts.length ≤ 4096) :
    PqX (w1.heap.size + 1) w1.heap.size v ts en (.slice none 0 0) 0 (w1.alloc (.cells #[v, .int .i64 en, .int .i64 0, .int .i64 0, .slice none 0 0, .slice none 0 0, .nilIface] 72)) (.slice none 0 0) (.ok ⟨0, []⟩) := by
  have hc : ∀ (i : Nat) (u : Value), (#[v, .int .i64 en, .int .i64 0, .int .i64 0, .slice none 0 0, .slice none 0 0, .nilIface] : Array Value)[i]? = some u → (w1.alloc (.cells #[v, .int .i64 en, .int .i64 0, .int .i64 0, .slice none 0 0, .slice none 0 0, .nilIface] 72)).cell? ⟨w1.heap.size, i, none⟩ = some u := fun i u hu => by
    rw [World.cell?_alloc_at _ _ _ _ (by simp)]; exact hu
  refine (PqW.mk (hc 0 _ rfl) (hc 1 _ rfl) (hc 2 _ rfl) (hc 3 _ rfl) (hc 4 _ rfl) (hc 5 _ rfl) (hc 6 _ rfl) (Nat.lt_succ_self _) (by simp) (fun o => by simp) ?_ (OwnN.nil _ _) (Nat.zero_le _) (Nat.zero_le _) (Nat.le_trans hl (by decide)) (fun k hk => by cases hk) : PqW (w1.heap.size + 1) w1.heap.size v ts en (.slice none 0 0) 0 (w1.alloc (.cells #[v, .int .i64 en, .int .i64 0, .int .i64 0, .slice none 0 0, .slice none 0 0, .nilIface] 72)) (.slice none 0 0) ⟨0, []⟩ .nilIface)
  rcases hK.rd with ⟨rfl, a, c, rfl⟩ | ⟨g, c, rfl, hg, hs⟩
  · exact .inl ⟨rfl, a, c, rfl⟩
  · refine .inr ⟨g, c, rfl, by omega, by omega, by simp; omega, ?_⟩
    exact TkSl.bar (S := fun _ => False) hs (Bar.of_below (below_alc _ _)) id
/-- nothing has turned but the result's cells, and they hold no program. -/
structure KX (w : World) (P : Nat) (X : World) : Prop where
  b : Bar (fun k => k = P) w X
  c0 : X.cell? ⟨P, 0, none⟩ = some (.slice none 0 0)
  c1 : X.cell? ⟨P, 1, none⟩ = some (.slice none 0 0)
  f : ∀ o, X.frozen? ⟨P, o, none⟩ = false
theorem KX.drew {w X : World} {P : Nat} (h : KX w P X) : KX w P X.drew := ⟨h.b.next ((Below.refl _ _).drew), h.c0, h.c1, h.f⟩
theorem KX.set0 {w X : World} {P : Nat} (h : KX w P X) : KX w P (X.setCell ⟨P, 0, none⟩ (.slice none 0 0)) := ⟨h.b.trans (Bar.set (S := fun k => k = P) ⟨P, 0, none⟩ _ rfl) fun _ _ hs => hs, setS h.c0, setO h.c1 (by simp), fun o => by simp only [World.frozen?_setCell]; exact h.f o⟩
theorem KX.set1 {w X : World} {P : Nat} (h : KX w P X) : KX w P (X.setCell ⟨P, 1, none⟩ (.slice none 0 0)) := ⟨h.b.trans (Bar.set (S := fun k => k = P) ⟨P, 1, none⟩ _ rfl) fun _ _ hs => hs, setO h.c0 (by simp), setS h.c1, fun o => by simp only [World.frozen?_setCell]; exact h.f o⟩
theorem KX.next {w X Y : World} {P : Nat} (h : KX w P X) (hP : P < X.heap.size) (hb : Below X.heap.size X Y) : KX w P Y := ⟨h.b.next hb, carry hb hP h.c0, carry hb hP h.c1, fun o => (hb.frozen (p := ⟨P, o, none⟩) hP).trans (h.f o)⟩
set_option maxRecDepth 100000 in
set_option maxHeartbeats 8000000 in
theorem Parse_any (s : ByteArray) (w : World) (hs : s.size ≤ 1125899906842624) (hg : Hid (errTy w)) :
    Calls Tryz.prog 14 #[.string s] w (PrP (parseV s) w) := by
  have kT := Lib.hid fun (W : World) (hb : Below w.heap.size w W) => tokens_any s W hs (errTy_below hg.out hb)
  have hP := Lib.hid (show parseV s = if (lexR s).2.2 = 0 then progP (lexR s).1 s.size else .error (400, (lexR s).2.1) from rfl)
  have hlen := Lib.hid (lexR_len s)
  generalize parseV s = T at hP ⊢
  obtain ⟨⟨ts, pl, er⟩, hR⟩ : ∃ R, lexR s = R := ⟨_, rfl⟩
  rw [hR] at kT hP hlen
  clear hR
  have h0l := hgl hg.out
  have hsz : (s.size : Int) ≤ 1125899906842624 := by omega
  go_enter Tryz.func14, Tryz.ntmps14
  go_wp2_with fail
  refine (kT.out _ (by (repeat' (first | with_reducible exact Below.refl _ _ | with_reducible assumption | with_reducible apply Below.setCell | with_reducible apply Below.alloc | with_reducible apply Below.drew | with_reducible apply below_drewN | with_reducible exact Nat.le_refl _ | (simp; done) | (simp; omega) | omega | exact Nat.le_refl _)))).mono ?_
  rintro e1 w1 ⟨v, rfl, hK0, hb0⟩
  have hP0 : w.heap.size < (w.alloc (.cells #[.slice none 0 0, .slice none 0 0] 25)).heap.size := by simp
  have hc0 : w1.cell? ⟨w.heap.size, 0, none⟩ = some (.slice none 0 0) := carry hb0 hP0 (by rw [World.cell?_alloc_at _ _ _ _ rfl]; rfl)
  have hc1 : w1.cell? ⟨w.heap.size, 1, none⟩ = some (.slice none 0 0) := carry hb0 hP0 (by rw [World.cell?_alloc_at _ _ _ _ rfl]; rfl)
  have hf0 : ∀ o, w1.frozen? ⟨w.heap.size, o, none⟩ = false := fun o => (hb0.frozen (p := ⟨w.heap.size, o, none⟩) hP0).trans (by simp)
  have hb1 := Lib.hid (belT (below_alc w _) hb0)
  have hl1 : w.heap.size < w1.heap.size := Nat.lt_of_lt_of_le hP0 hb0.size
  clear hb0 hP0 kT
  have hK : OwnK (w.alloc (.cells #[.slice none 0 0, .slice none 0 0] 25)).heap.size w1 v ts := hK0
  clear hK0
  obtain ⟨av, cv, rfl⟩ : ∃ a c, v = .slice a ts.length c := by
    rcases hK.rd with ⟨h1, a, c, h2⟩ | ⟨g, c, h2, _⟩
    · exact ⟨a, c, by rw [h2, h1]; rfl⟩
    · exact ⟨_, c, h2⟩
  have hK := Lib.hid hK
  by_cases h0 : er = 0
  · subst h0
    have hP := Lib.hid (hP.out.trans (if_pos rfl))
    have hx := Lib.hid (pq_start (s.size : Int) hK.out hlen.out)
    have k2 := Lib.hid (program_any (w1.heap.size + 1) w1.heap.size _ ts s.size _ (by simp) hx)
    clear hK
    go_wp2_with fail
    refine k2.out.mono ?_
    rintro e2 w3 ⟨ov, os, nv, RF, rfl, hp, ho, hl5, hB, hprog0⟩
    have hB1 : Bar (fun k => k = w1.heap.size) w1 w3 := (Bar.of_below (S := fun k => k = w1.heap.size) (below_alc w1 _)).trans hB fun _ _ hs => hs
    have hc0 := hB1.cell hc0 (by show ¬ w.heap.size = _; omega)
    have hc1 := hB1.cell hc1 (by show ¬ w.heap.size = _; omega)
    have hf0 : ∀ o, w3.frozen? ⟨w.heap.size, o, none⟩ = false := fun o => (hB1.frozen (a := ⟨w.heap.size, o, none⟩) hl1 (by show ¬ w.heap.size = _; omega)).trans (hf0 o)
    have hb3 := Lib.hid (show Below w.heap.size w w3 from hb1.out.trans (hB1.below (B := w.heap.size) (by omega) (fun k hk => by have hk : k = w1.heap.size := hk; omega)))
    have hg3 := Lib.hid (errTy_below hg.out hb3.out)
    have hl3 : w1.heap.size < w3.heap.size := by have := hp.lt; omega
    have ho3 := Lib.hid (show OwnO (w.heap.size + 1) w3 ov os from owns_mono ho (by omega))
    have hprog := Lib.hid hprog0
    have hP3 : w.heap.size < w3.heap.size := by omega
    clear hprog0 k2 hB hB1 hx ho
    rcases RF with x | st
    · obtain ⟨st3, ev3, h3, F, v3, rfl, hF1, hF2, hF3, hF4, hF5, hF6, hF7, hF8⟩ := hp
      have hx2 := Lib.hid hF7
      have g6 := h3.r
      have hT : Hid (T = .error x) := Lib.hid (hP.out.trans hprog.out)
      clear hprog hP ho3 h3 hF3 hF4 hF7 hF8
      go_wp2_with fail
      refine (PsA.as_hit ⟨F, 0, none⟩ ⟨w3.heap.size, 0, none⟩ (.pointer none) _ (errTy_below hg3.out (by (repeat' (first | with_reducible exact Below.refl _ _ | with_reducible assumption | with_reducible apply Below.setCell | with_reducible apply Below.alloc | with_reducible apply Below.drew | with_reducible apply below_drewN | with_reducible exact Nat.le_refl _ | (simp; done) | (simp; omega) | omega | exact Nat.le_refl _)))) (by simp) (by simp)).mono ?_
      rintro e4 w4 ⟨rfl, W0, hW0, hw4⟩
      have y0 : w4.cell? ⟨w3.heap.size, 0, none⟩ = some (.pointer (some ⟨F, 0, none⟩)) := by rw [hw4]; exact set_old hW0 (by simp) (by simp; rfl)
      have hb40 : Below w3.heap.size w3 w4 := by rw [hw4]; exact set_below (by (repeat' (first | with_reducible exact Below.refl _ _ | with_reducible assumption | with_reducible apply Below.setCell | with_reducible apply Below.alloc | with_reducible apply Below.drew | with_reducible apply below_drewN | with_reducible exact Nat.le_refl _ | (simp; done) | (simp; omega) | omega | exact Nat.le_refl _))) hW0 (by simp) (by simp)
      clear hw4 hW0
      have y1 := carry hb40 hF1 hF5
      have y2 := carry hb40 hF1 hF6
      have y3 := carry hb40 hl3 g6
      have y4 := carry hb40 hP3 hc0
      have y5 := carry hb40 hP3 hc1
      have y6 : ∀ o, w4.frozen? ⟨w.heap.size, o, none⟩ = false := fun o => (hb40.frozen (p := ⟨w.heap.size, o, none⟩) hP3).trans (hf0 o)
      have hl4 : w3.heap.size ≤ w4.heap.size := hb40.size
      have hg4 := Lib.hid (errTy_below hg3.out hb40)
      have hb4 := Lib.hid (hb3.out.trans (hb40.mono (show w.heap.size ≤ w3.heap.size by omega)))
      have hPF : w.heap.size ≠ F := by
        intro e
        rw [← e, y4] at y1
        cases y1
      have hK4 : Hid (KX w4 w.heap.size w4) := Lib.hid ⟨Bar.refl _ _, y4, y5, y6⟩
      have kC := Lib.hid fun (X : World) (hX : KX w4 w.heap.size X) => (code_any F v3 x.1 X (Lib.hid (hX.b.cell hg4.out (by show ¬ 0 = w.heap.size; omega))) (Lib.hid (hX.b.cell y2 (by show ¬ F = w.heap.size; omega))) (by have := hX.b.size; omega) hx2.out).mono (R' := fun e w' => e = .returned (.int .i64 x.1) ∧ KX w4 w.heap.size w') (fun e w' he => ⟨he.1, hX.next (by have := hX.b.size; omega) he.2⟩)
      have hPW : ¬ w3.heap.size = w.heap.size := by omega
      have hPF' : ¬ F = w.heap.size := fun e => hPF e.symm
      have hfin : Hid (∀ X, KX w4 w.heap.size X → PrP T w (.returned (.tuple #[.agg #[.slice none 0 0, .slice none 0 0], .int .i64 x.2, .int .i64 x.1])) X) := Lib.hid fun X hX => ⟨_, _, [], [], x.2, x.1, rfl, OwnO.nil _ _, OwnN.nil _ _, hb4.out.trans (hX.b.below (B := w.heap.size) (by omega) (fun k hk => by have hk : k = w.heap.size := hk; omega)), by rw [hT.out]; exact ⟨rfl, rfl, rfl, rfl, rfl, rfl⟩⟩
      clear hF5 hF6 g6 hc0 hc1 hf0 hb40 hT y2
      go_upto_region 8 with fail
      go_region_with ((go_at_call 35; refine (kC.out _ (by repeat' (first | exact hK4.out | with_reducible apply KX.set0 | with_reducible apply KX.set1 | with_reducible apply KX.drew))).mono ?_; rintro e5 w5 ⟨rfl, hk5⟩; have u0 := hk5.b.cell y0 hPW; have u1 := hk5.b.cell y1 hPF'; have u4 := hk5.c0; have u5 := hk5.c1; have u6 := hk5.f; have hk5 := Lib.hid hk5))
      all_goals (go_wp2_with fail; refine bodyPost_ret (v := .tuple #[.agg #[.slice none 0 0, .slice none 0 0], .int .i64 x.2, .int .i64 x.1]) (by simp [results, Tryz.results14, go_sem, u4, u5]) rfl (hfin.out _ (by repeat' (first | exact hk5.out | with_reducible apply KX.set0 | with_reducible apply KX.set1 | with_reducible apply KX.drew))))
    · replace hp : PqW (w1.heap.size + 1) w1.heap.size (.slice av ts.length cv) ts s.size ov 0 w3 nv st .nilIface := hp
      have hn3 := Lib.hid (show OwnN (w.heap.size + 1) w3 nv st.ns from owns_mono hp.own (by omega))
      obtain ⟨a, c, rfl⟩ := owno_sl ho3.out
      obtain ⟨a2, c2, rfl⟩ := own_sl hn3.out
      have g4 := hp.o; have g5 := hp.n; have g6 := hp.r
      have hT : Hid (T = .ok (os, st.ns)) := Lib.hid (hP.out.trans hprog.out)
      clear hp hprog hP
      go_wp2_with fail
      refine (as_nil _ _).mono ?_
      rintro e4 w4 ⟨rfl, rfl⟩
      go_wp2_with fail
      have hz0 : (((w3.setCell ⟨w.heap.size, 0, none⟩ (.slice a os.length c)).setCell ⟨w.heap.size, 1, none⟩ (.slice a2 st.ns.length c2)).alloc (.cells #[.pointer none] 73)).cell? ⟨w.heap.size, 0, none⟩ = some (.slice a os.length c) := by
        rw [World.cell?_alloc_lt _ _ ⟨w.heap.size, 0, none⟩ (by simpa using hP3)]; exact setO (setS hc0) (by simp)
      have hz1 : (((w3.setCell ⟨w.heap.size, 0, none⟩ (.slice a os.length c)).setCell ⟨w.heap.size, 1, none⟩ (.slice a2 st.ns.length c2)).alloc (.cells #[.pointer none] 73)).cell? ⟨w.heap.size, 1, none⟩ = some (.slice a2 st.ns.length c2) := by
        rw [World.cell?_alloc_lt _ _ ⟨w.heap.size, 1, none⟩ (by simpa using hP3)]; exact setS (setO hc1 (by simp))
      have hS3 : Bar (fun k => k = w.heap.size) w3 (((w3.setCell ⟨w.heap.size, 0, none⟩ (.slice a os.length c)).setCell ⟨w.heap.size, 1, none⟩ (.slice a2 st.ns.length c2)).alloc (.cells #[.pointer none] 73)) := Bar.next ((Bar.set (S := fun k => k = w.heap.size) ⟨w.heap.size, 0, none⟩ _ rfl).trans (Bar.set (S := fun k => k = w.heap.size) ⟨w.heap.size, 1, none⟩ _ rfl) fun _ _ hs => hs) (below_alc _ _)
      refine bodyPost_ret (v := .tuple #[.agg #[.slice a os.length c, .slice a2 st.ns.length c2], .int .i64 0, .int .i64 0]) (by simp [results, Tryz.results14, go_sem, hz0, hz1]) rfl ⟨_, _, os, st.ns, 0, 0, rfl, owns_mono (Bar.own hS3 ho3.out fun k hk (e : k = w.heap.size) => by have := (owno_lt ho3.out k hk).1; omega) (Nat.le_succ _), owns_mono (Bar.own hS3 hn3.out fun k hk (e : k = w.heap.size) => by have := (own_lt hn3.out k hk).1; omega) (Nat.le_succ _), hb3.out.trans (hS3.below (B := w.heap.size) (by omega) (fun k hk => by have hk : k = w.heap.size := hk; omega)), by rw [hT.out]; exact ⟨rfl, rfl, rfl, rfl⟩⟩
  · have e0 : (er == 0) = false := beq_eq_false_iff_ne.2 h0
    have hP := Lib.hid (hP.out.trans (if_neg h0))
    clear hK h0
    go_wp2_with fail
    refine bodyPost_ret (v := .tuple #[.agg #[.slice none 0 0, .slice none 0 0], .int .i64 pl, .int .i64 400]) (by simp [results, Tryz.results14, go_sem, hc0, hc1]) rfl ⟨_, _, [], [], pl, 400, rfl, OwnO.nil _ _, OwnN.nil _ _, ?_, by rw [hP.out]; exact ⟨rfl, rfl, rfl, rfl, rfl, rfl⟩⟩
    exact hb1.out.trans ((Bar.trans (S := fun k => k = w.heap.size) (Bar.set (S := fun k => k = w.heap.size) ⟨w.heap.size, 0, none⟩ _ rfl) (Bar.set (S := fun k => k = w.heap.size) ⟨w.heap.size, 1, none⟩ _ rfl) fun _ _ hs => hs).below (B := w.heap.size) (by omega) (fun k hk => by have hk : k = w.heap.size := hk; omega))
end Go.Proofs.YtidlljookjicpaaGreatDoor

/- Layer 4's awake. -/
namespace Go.Proofs.YtidlljookjicpaaGreatDoor
open Go.RowKit
set_option linter.unusedVariables false
set_option linter.unusedSimpArgs false

def aw4O : List Or := [⟨⟨#[97]⟩, 0, 1⟩]
def aw4N : List Nd := [⟨0, 0, 0, 0, 0, ⟨#[120]⟩, ⟨#[]⟩, ⟨#[]⟩, ⟨#[]⟩, 29⟩, ⟨1, 0, 0, 0, 2, ⟨#[]⟩, ⟨#[]⟩, ⟨#[]⟩, ⟨#[]⟩, 33⟩, ⟨0, 0, 0, 0, 0, ⟨#[121]⟩, ⟨#[]⟩, ⟨#[]⟩, ⟨#[]⟩, 37⟩, ⟨8, 1, 2, 0, 2, ⟨#[]⟩, ⟨#[]⟩, ⟨#[]⟩, ⟨#[]⟩, 35⟩, ⟨8, 0, 3, 0, 0, ⟨#[]⟩, ⟨#[]⟩, ⟨#[]⟩, ⟨#[]⟩, 31⟩, ⟨3, 4, 0, 0, 0, ⟨#[]⟩, ⟨#[120]⟩, ⟨#[]⟩, ⟨#[]⟩, 20⟩]
theorem pv1 : parseV ⟨#[111, 112, 32, 97, 32, 58, 32, 105, 110, 116, 32, 45, 62, 32, 98, 111, 111, 108, 59, 32, 102, 117, 110, 32, 120, 32, 45, 62, 32, 120, 32, 43, 32, 50, 32, 42, 32, 121]⟩ = .ok (aw4O, aw4N) := by kernel_rfl
theorem pv2 : parseV ⟨#[102, 117, 110, 32, 120, 32, 45, 62]⟩ = .error (403, 8) := by kernel_rfl
theorem pv3 : parseV ⟨#[120, 32, 36]⟩ = .error (400, 2) := by kernel_rfl
theorem pv4 : parseV ⟨#[40, 120]⟩ = .error (403, 2) := by kernel_rfl
end Go.Proofs.YtidlljookjicpaaGreatDoor

/- What a text's program is like. -/
namespace Go.Proofs.YtidlljookjicpaaGreatDoor
open Go.RowKit
set_option linter.unusedVariables false
set_option linter.unusedSimpArgs false

/-- what is known of a program that was read. -/
structure PrK (n : Nat) (os : List Or) (ns : List Nd) : Prop where
  sz : ∀ t ∈ ns, NdSz t
  oz : ∀ o ∈ os, OrSz o
  may : mayV os ns = true
  at_ : ∀ j, j < ns.length → 0 ≤ (ns.getD j nd0).p ∧ (ns.getD j nd0).p < n
  l0 : 1 ≤ ns.length
  l1 : ns.length ≤ 512
  ol : os.length ≤ 4
theorem parse_k {s : ByteArray} {os : List Or} {ns : List Nd} (h : parseV s = .ok (os, ns)) : PrK s.size os ns := by
  obtain ⟨h1, h2, h3, h4⟩ := parseV_may h
  have hl : 1 ≤ ns.length ∧ ns.length ≤ 512 := by
    unfold treeV at h1
    simp only [Bool.and_eq_true, decide_eq_true_eq] at h1
    exact h1.1.1
  refine ⟨fun t ht => ok_sz (h2 t ht).1, fun o ho => nm_sz (h4 o ho).2.2, ?_, fun j hj => ?_, hl.1, hl.2, h3⟩
  · unfold mayV
    rw [h1, opsV_ok h3, Bool.and_true]
    rw [List.all_eq_true]
    intro o ho
    obtain ⟨a1, a2, a3⟩ := h4 o ho
    unfold opOk baseB
    rw [a3]
    rcases a1 with e1 | e1 <;> rcases a2 with e2 | e2 <;> (rw [e1, e2]; rfl)
  · have hm : ns.getD j nd0 ∈ ns := by
      rw [List.getD_eq_getElem?_getD, List.getElem?_eq_getElem hj]; exact List.getElem_mem hj
    exact (h2 _ hm).2
theorem parse_no {s : ByteArray} {x : PE} (h : parseV s = .error x) : (400 ≤ x.1 ∧ x.1 ≤ 403) ∧ 0 ≤ x.2 ∧ x.2 ≤ s.size := parseV_bad h (lexR_place s)
end Go.Proofs.YtidlljookjicpaaGreatDoor

/- Rows of nodes that are the same but for their places. -/
namespace Go.Proofs.YtidlljookjicpaaGreatDoor
open Go.RowKit
set_option linter.unusedVariables false
set_option linter.unusedSimpArgs false

end Go.Proofs.YtidlljookjicpaaGreatDoor

/- A text in brackets. -/
namespace Go.Proofs.YtidlljookjicpaaGreatDoor
open Go.RowKit
set_option linter.unusedVariables false
set_option linter.unusedSimpArgs false

section
variable {ts : List Tk} {en : Int} {E : PS → Except PE (Nat × PS)}
/-- an expression at a bracket that opens: what is in the brackets; nothing may go on behind it. -/
theorem brk_at {i : Nat} {ns : List Nd} {t : Tk} (ht : ts[i]? = some t) (hk : t.kind = 3) (hx : t.text = sgOpen) : atomP ts en E ⟨i, ns⟩ = (E ⟨i + 1, ns⟩ >>= fun p => wantP ts en sgShut p.2 >>= fun s => .ok (p.1, s)) := by
  have hi : ∀ u, isP ts i u = (sgOpen == u) := fun u => by unfold isP; rw [ht]; dsimp only; rw [hk, hx]; rfl
  unfold atomP
  simp only [ht]
  rw [if_neg (by rw [hk]; decide), if_neg (by rw [hk]; decide), hi, hi, hi, if_neg (by decide), if_neg (by decide), if_pos (by decide)]
theorem brk_first {i : Nat} {ns : List Nd} {t : Tk} (ht : ts[i]? = some t) (hk : t.kind = 3) (hx : t.text = sgOpen) : firstP ts en E ⟨i, ns⟩ = atomP ts en E ⟨i, ns⟩ := by
  have hi : ∀ u, isP ts i u = (sgOpen == u) := fun u => by unfold isP; rw [ht]; dsimp only; rw [hk, hx]; rfl
  unfold firstP
  rw [hi, if_neg (by decide)]
theorem open_first {i : Nat} {ns : List Nd} (h0 : isP ts i kwFun = false) (h1 : isP ts i kwLet = false) (h2 : isP ts i kwIf = false) {e : PE} (h : firstP ts en E ⟨i, ns⟩ = .error e) : openP ts en E ⟨i, ns⟩ = .error e := by
  unfold openP
  rw [if_neg (by rw [h0]; decide), if_neg (by rw [h1]; decide), if_neg (by rw [h2]; decide)]
  unfold compareP sumP productP applyP
  rw [h]
  rfl
theorem isP_end {i : Nat} (h : ts.length ≤ i) (u : List UInt8) : isP ts i u = false := by unfold isP; rw [List.getElem?_eq_none h]
theorem starts_end {i : Nat} (h : ts.length ≤ i) : startsP ts i = false := by unfold startsP; rw [List.getElem?_eq_none h]
theorem open_last {i : Nat} {ns : List Nd} (h0 : isP ts i kwFun = false) (h1 : isP ts i kwLet = false) (h2 : isP ts i kwIf = false) {a : Nat} {st : PS} (h : firstP ts en E ⟨i, ns⟩ = .ok (a, st)) (hl : ts.length ≤ st.i) : openP ts en E ⟨i, ns⟩ = .ok (a, st) := by
  unfold openP
  rw [if_neg (by rw [h0]; decide), if_neg (by rw [h1]; decide), if_neg (by rw [h2]; decide)]
  have ha : applyP ts en E ⟨i, ns⟩ = .ok (a, st) := by
    unfold applyP
    rw [h]
    show appLoop ts en E _ (ts.length + 1) a st = _
    unfold appLoop
    rw [if_neg (by rw [starts_end hl]; decide)]
  have hr : ∀ (u v : List UInt8) (nu nv : Int) (o : PS → Except PE (Nat × PS)), rankLoop ts en u v nu nv o (ts.length + 1) a st = .ok (a, st) := fun u v nu nv o => by
    unfold rankLoop
    rw [if_neg (by rw [isP_end hl]; decide), if_neg (by rw [isP_end hl]; decide)]
  have hp : productP ts en E ⟨i, ns⟩ = .ok (a, st) := by
    unfold productP
    rw [ha]
    exact hr _ _ _ _ _
  have hs : sumP ts en E ⟨i, ns⟩ = .ok (a, st) := by
    unfold sumP
    rw [hp]
    exact hr _ _ _ _ _
  unfold compareP
  rw [hs]
  show (if isP ts st.i sgEq2 then _ else if isP ts st.i sgLess then _ else _) = _
  rw [if_neg (by rw [isP_end hl]; decide), if_neg (by rw [isP_end hl]; decide)]
/-- where 'op' stands, no expression begins. -/
theorem op_err {i : Nat} {ns : List Nd} {t : Tk} (ht : ts[i]? = some t) (hk : t.kind = 2 ∨ t.kind = 3) (hx : t.text = kwOp) : openP ts en E ⟨i, ns⟩ = .error (403, hereP ts en i) := by
  have hi : ∀ u, isP ts i u = (kwOp == u) := fun u => by unfold isP; rw [ht]; rcases hk with h | h <;> (dsimp only; rw [h, hx]; rfl)
  refine open_first (by rw [hi]; decide) (by rw [hi]; decide) (by rw [hi]; decide) ?_
  unfold firstP
  rw [hi, if_neg (by decide)]
  unfold atomP
  simp only [ht]
  rw [if_neg (by rcases hk with h | h <;> rw [h] <;> decide), if_neg (by rcases hk with h | h <;> rw [h] <;> decide), hi, hi, hi, hi, if_neg (by decide), if_neg (by decide), if_neg (by decide), if_neg (by decide)]
theorem declLoop_len : ∀ (f : Nat) (os os' : List Or) (st s1 : PS), declLoop ts en f os st = .ok (os', s1) → os.length ≤ os'.length
  | 0, os, os', st, s1, h => by cases h
  | f + 1, os, os', st, s1, h => by
    unfold declLoop at h
    by_cases h0 : isP ts st.i kwOp = true
    · rw [if_pos h0] at h
      simp only [ex_ok, Prod.exists] at h
      obtain ⟨o2, s2, h1, h2⟩ := h
      obtain ⟨_, _, _, _, o, rfl, _⟩ := declP_ok h1
      have := declLoop_len f _ _ _ _ h2
      simp at this
      omega
    · rw [if_neg h0] at h
      injection h with h; injection h with h1 h2; subst h1; exact Nat.le_refl _
end
end Go.Proofs.YtidlljookjicpaaGreatDoor

/- Texts of many like parts: what the lexer and the parser make of them. -/
namespace Go.Proofs.YtidlljookjicpaaGreatDoor
open Go.RowKit
set_option linter.unusedVariables false
set_option linter.unusedSimpArgs false

section
variable {ts : List Tk} {en : Int} {E : PS → Except PE (Nat × PS)}
/-- nothing goes on here. -/
structure StopAt (ts : List Tk) (i : Nat) : Prop where
  s : startsP ts i = false
  o : ∀ u ∈ [sgMul, sgDiv, sgAdd, sgSub, sgEq2, sgLess], isP ts i u = false
theorem apply_stop {st0 st : PS} {a : Nat} (h : firstP ts en E st0 = .ok (a, st)) (hs : startsP ts st.i = false) : applyP ts en E st0 = .ok (a, st) := by
  unfold applyP
  rw [h]
  show appLoop ts en E _ (ts.length + 1) a st = _
  unfold appLoop
  rw [if_neg (by rw [hs]; decide)]
theorem rank_stop {st : PS} {a : Nat} {u v : List UInt8} {nu nv : Int} {o : PS → Except PE (Nat × PS)} (f : Nat) (hu : isP ts st.i u = false) (hv : isP ts st.i v = false) : rankLoop ts en u v nu nv o (f + 1) a st = .ok (a, st) := by
  unfold rankLoop
  rw [if_neg (by rw [hu]; decide), if_neg (by rw [hv]; decide)]
theorem product_stop {st0 st : PS} {a : Nat} (h : applyP ts en E st0 = .ok (a, st)) (hu : isP ts st.i sgMul = false) (hv : isP ts st.i sgDiv = false) : productP ts en E st0 = .ok (a, st) := by
  unfold productP
  rw [h]
  exact rank_stop _ hu hv
theorem sum_stop {st0 st : PS} {a : Nat} (h : productP ts en E st0 = .ok (a, st)) (hu : isP ts st.i sgAdd = false) (hv : isP ts st.i sgSub = false) : sumP ts en E st0 = .ok (a, st) := by
  unfold sumP
  rw [h]
  exact rank_stop _ hu hv
theorem compare_stop {st0 st : PS} {a : Nat} (h : sumP ts en E st0 = .ok (a, st)) (hu : isP ts st.i sgEq2 = false) (hv : isP ts st.i sgLess = false) : compareP ts en E st0 = .ok (a, st) := by
  unfold compareP
  rw [h]
  show (if isP ts st.i sgEq2 then _ else if isP ts st.i sgLess then _ else _) = _
  rw [if_neg (by rw [hu]; decide), if_neg (by rw [hv]; decide)]
theorem open_cmp {st : PS} (h0 : isP ts st.i kwFun = false) (h1 : isP ts st.i kwLet = false) (h2 : isP ts st.i kwIf = false) : openP ts en E st = compareP ts en E st := by
  unfold openP
  rw [if_neg (by rw [h0]; decide), if_neg (by rw [h1]; decide), if_neg (by rw [h2]; decide)]
theorem open_stop {st0 st : PS} (h0 : isP ts st0.i kwFun = false) (h1 : isP ts st0.i kwLet = false) (h2 : isP ts st0.i kwIf = false) {a : Nat} (h : firstP ts en E st0 = .ok (a, st)) (hs : StopAt ts st.i) : openP ts en E st0 = .ok (a, st) := by
  rw [open_cmp h0 h1 h2]
  exact compare_stop (sum_stop (product_stop (apply_stop h hs.s) (hs.o _ (by simp)) (hs.o _ (by simp))) (hs.o _ (by simp)) (hs.o _ (by simp))) (hs.o _ (by simp)) (hs.o _ (by simp))
theorem stop_end {i : Nat} (h : ts.length ≤ i) : StopAt ts i := ⟨starts_end h, fun u _ => isP_end h u⟩
theorem isP_tok {i : Nat} {t : Tk} (ht : ts[i]? = some t) (hk : t.kind = 2 ∨ t.kind = 3) (u : List UInt8) : isP ts i u = (t.text == u) := by
  unfold isP
  rw [ht]
  rcases hk with h | h <;> (dsimp only; rw [h]; rfl)
theorem isP_not {i : Nat} {t : Tk} (ht : ts[i]? = some t) (hk : t.kind = 0 ∨ t.kind = 1) (u : List UInt8) : isP ts i u = false := by
  unfold isP
  rw [ht]
  rcases hk with h | h <;> (dsimp only; rw [h]; rfl)
theorem starts_tok {i : Nat} {t : Tk} (ht : ts[i]? = some t) (hk : t.kind = 2 ∨ t.kind = 3) (hx : t.text ∈ [kwThen, kwElse, kwIn, sgShut, sgAdd]) : startsP ts i = false := by
  have hi := isP_tok ht hk
  unfold startsP
  simp only [ht, hi]
  have e0 : (t.kind == 0) = false := by rcases hk with h | h <;> rw [h] <;> rfl
  have e1 : (t.kind == 1) = false := by rcases hk with h | h <;> rw [h] <;> rfl
  rw [e0, e1]
  simp only [List.mem_cons, List.not_mem_nil, or_false] at hx
  rcases hx with h | h | h | h | h <;> rw [h] <;> decide
theorem stop_tok {i : Nat} {t : Tk} (ht : ts[i]? = some t) (hk : t.kind = 2 ∨ t.kind = 3) (hx : t.text ∈ [kwThen, kwElse, kwIn, sgShut]) : StopAt ts i := by
  refine ⟨starts_tok ht hk (by simp only [List.mem_cons, List.not_mem_nil, or_false] at hx ⊢; rcases hx with h | h | h | h <;> simp [h]), fun u hu => ?_⟩
  rw [isP_tok ht hk]
  simp only [List.mem_cons, List.not_mem_nil, or_false] at hx hu
  rcases hx with h | h | h | h <;> rcases hu with h' | h' | h' | h' | h' | h' <;> rw [h, h'] <;> decide
/-- a name or a number is an atom. -/
theorem first_atom {i : Nat} {ns : List Nd} {t : Tk} (ht : ts[i]? = some t) (hk : t.kind = 0 ∨ t.kind = 1) : ∃ x, firstP ts en E ⟨i, ns⟩ = putP ts en x ⟨i + 1, ns⟩ := by
  unfold firstP
  rw [isP_not ht hk, if_neg (by decide)]
  unfold atomP
  simp only [ht]
  rcases hk with h | h
  · rw [if_pos h]; exact ⟨_, rfl⟩
  · rw [if_neg (by rw [h]; decide), if_pos h]; exact ⟨_, rfl⟩
theorem open_atom {i : Nat} {ns : List Nd} {t : Tk} (ht : ts[i]? = some t) (hk : t.kind = 0 ∨ t.kind = 1) (hs : StopAt ts (i + 1)) (hl : ns.length < 512) : ∃ x, openP ts en E ⟨i, ns⟩ = .ok (ns.length, ⟨i + 1, ns ++ [x]⟩) := by
  obtain ⟨x, hx⟩ := first_atom (en := en) (E := E) (ns := ns) ht hk
  refine ⟨x, open_stop (isP_not ht hk _) (isP_not ht hk _) (isP_not ht hk _) ?_ hs⟩
  rw [hx]
  unfold putP
  rw [if_neg (by dsimp only; omega)]
end
theorem lx_blank {q l : List UInt8} {p : Nat} {acc : List Tk} (hq : skipF false (q ++ l) = skipF false l + q.length) : lxAt (q ++ l) p acc = lxAt l (p + q.length) acc := by
  have hd : (q ++ l).drop (skipF false (q ++ l)) = l.drop (skipF false l) := by
    rw [hq, Nat.add_comm, List.drop_append]; simp
  by_cases h : l.drop (skipF false l) = []
  · rw [lxAt_end (by rw [hd]; exact h), lxAt_end h]
  · by_cases he : (firstF (l.drop (skipF false l))).2.2 = 0
    · obtain ⟨⟨t, n, er⟩, hf⟩ : ∃ r, firstF (l.drop (skipF false l)) = r := ⟨_, rfl⟩
      rw [hf] at he
      obtain rfl : er = 0 := he
      rw [lxAt_step (l := l) h hf, lxAt_step (l := q ++ l) (by rw [hd]; exact h) (by rw [hd]; exact hf), hd, hq]
      rw [show p + (skipF false l + q.length) = p + q.length + skipF false l by omega]
    · rw [lxAt_bad (by rw [hd]; exact h) (by rw [hd]; exact he), lxAt_bad h he, hd, hq]
      congr 2
      omega
/-- one token, and what is behind it. -/
theorem lx_tok {l r : List UInt8} {t : Tk} {n p : Nat} {acc : List Tk} (hs : skipF false l = 0) (hne : l ≠ []) (hf : firstF l = (t, n, 0)) (hr : l.drop n = r) : lxAt l p acc = lxAt r (p + n) (acc ++ [⟨t.kind, t.text, t.num, (p : Int)⟩]) := by
  rw [lxAt_step (by rw [hs]; exact hne) (by rw [hs, List.drop_zero]; exact hf), hs, List.drop_zero, hr]
  rfl
theorem bs_app (l r : List UInt8) : bs (l ++ r) = bs l ++ bs r := ba_ext (by simp [bs])
end Go.Proofs.YtidlljookjicpaaGreatDoor
