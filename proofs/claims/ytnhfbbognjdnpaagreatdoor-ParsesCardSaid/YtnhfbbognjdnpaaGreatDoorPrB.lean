/- The program's parser: which error it is. -/
import Derived.Test.YtnhfbbognjdnpaaGreatDoorPrA
import Derived.Test.YtnhfbbognjdnpaaGreatDoorPqT
import Derived.Test.YtnhfbbognjdnpaaGreatDoorLxG
import Derived.Test.YtnhfbbognjdnpaaGreatDoorLxV
import Derived.Deep.RegionWith
/- The program's parser: which error it is. -/
namespace Go.Proofs.YtnhfbbognjdnpaaGreatDoor
open Go.RowKit
set_option linter.unusedVariables false
set_option linter.unusedSimpArgs false

set_option maxRecDepth 100000 in
set_option maxHeartbeats 4000000 in
theorem code_any (F : Nat) (v : Value) (c : Int) (w : World) (hg : Hid (errTy w)) (h1 : Hid (w.cell? ⟨F, 1, none⟩ = some v)) (hF : F < w.heap.size) (hv : ErIn v c) :
    Calls Tryz.prog 13 #[.iface 43 (.pointer (some ⟨F, 0, none⟩))] w fun e w' => e = .returned (.int .i64 c) ∧ Below w.heap.size w w' := by
  have h0l := hgl hg.out
  rcases hv with ⟨rfl, g, rfl⟩ | ⟨hc, rfl⟩
  · go_enter Tryz.func13, Tryz.ntmps13
    go_wp2_with fail
    refine (PwA.as_in F ⟨g, 0, none⟩ ⟨w.heap.size, 0, none⟩ (.pointer none) _ (errTy_below hg.out (by (repeat' (first | with_reducible exact Below.refl _ _ | with_reducible assumption | with_reducible apply Below.setCell | with_reducible apply Below.alloc | with_reducible apply Below.drew | with_reducible apply below_drewN | with_reducible exact Nat.le_refl _ | (simp; done) | (simp; omega) | omega | exact Nat.le_refl _)))) (by rw [World.cell?_alloc_lt _ _ ⟨F, 1, none⟩ hF]; exact h1.out) (by simp) (by simp)).mono ?_
    rintro e w1 ⟨rfl, W0, hW0, hw1⟩
    have hb1 := Lib.hid (show Below w.heap.size w w1 from by rw [hw1]; exact set_below (by (repeat' (first | with_reducible exact Below.refl _ _ | with_reducible assumption | with_reducible apply Below.setCell | with_reducible apply Below.alloc | with_reducible apply Below.drew | with_reducible apply below_drewN | with_reducible exact Nat.le_refl _ | (simp; done) | (simp; omega) | omega | exact Nat.le_refl _))) hW0 (by simp) (by simp))
    clear hw1 hW0
    go_wp2_with fail
    go_ret
    exact ⟨rfl, hb1.out⟩
  · have hc := Lib.hid hc
    go_enter Tryz.func13, Tryz.ntmps13
    go_wp2_with fail
    refine (PwA.as_out F c ⟨w.heap.size, 0, none⟩ (.pointer none) _ (errTy_below hg.out (by (repeat' (first | with_reducible exact Below.refl _ _ | with_reducible assumption | with_reducible apply Below.setCell | with_reducible apply Below.alloc | with_reducible apply Below.drew | with_reducible apply below_drewN | with_reducible exact Nat.le_refl _ | (simp; done) | (simp; omega) | omega | exact Nat.le_refl _)))) (by rw [World.cell?_alloc_lt _ _ ⟨F, 1, none⟩ hF]; exact h1.out) (by simp) (by simp)).mono ?_
    rintro e w1 ⟨rfl, hb1⟩
    have hb1 := Lib.hid (show Below w.heap.size w w1 from belT (below_alc w _) hb1)
    have hs1 := hb1.out.size
    have hg1 := Lib.hid (errTy_below hg.out hb1.out)
    have h1' := Lib.hid (carry hb1.out hF h1.out)
    go_wp2_with fail
    refine (PsA.as_wrap F c ⟨w1.heap.size, 0, none⟩ (.int .i64 0) _ (errTy_below hg1.out (by (repeat' (first | with_reducible exact Below.refl _ _ | with_reducible assumption | with_reducible apply Below.setCell | with_reducible apply Below.alloc | with_reducible apply Below.drew | with_reducible apply below_drewN | with_reducible exact Nat.le_refl _ | (simp; done) | (simp; omega) | omega | exact Nat.le_refl _)))) (by rw [World.cell?_alloc_lt _ _ ⟨F, 1, none⟩ (by show F < _; omega)]; exact h1'.out) (by simp) (by simp)).mono ?_
    rintro e w2 ⟨rfl, W0, hW0, hw2⟩
    have hc2 : w2.cell? ⟨w1.heap.size, 0, none⟩ = some (.int .i64 c) := by rw [hw2]; exact set_old hW0 (by simp) (by simp; rfl)
    have hb2 := Lib.hid (show Below w1.heap.size w1 w2 from by rw [hw2]; exact set_below (by (repeat' (first | with_reducible exact Below.refl _ _ | with_reducible assumption | with_reducible apply Below.setCell | with_reducible apply Below.alloc | with_reducible apply Below.drew | with_reducible apply below_drewN | with_reducible exact Nat.le_refl _ | (simp; done) | (simp; omega) | omega | exact Nat.le_refl _))) hW0 (by simp) (by simp))
    clear hw2 hW0
    go_wp2_with fail
    go_ret
    exact ⟨rfl, belT hb1.out hb2.out⟩
end Go.Proofs.YtnhfbbognjdnpaaGreatDoor

/- The program's parser: Parse. -/
namespace Go.Proofs.YtnhfbbognjdnpaaGreatDoor
open Go.RowKit
set_option linter.unusedVariables false
set_option linter.unusedSimpArgs false

theorem owns_mono {w : World} {B B' : Nat} {e : TypeId} {s : Nat} {v : Value} {n : Nat} {xs : List Value} (h : w.ownsRow B e s v n xs) (hb : B' ≤ B) : w.ownsRow B' e s v n xs := by
  refine ⟨h.1, ?_⟩
  rcases h.2 with h0 | ⟨g, cap, cur, rfl, hB, rest⟩
  · exact .inl h0
  · exact .inr ⟨g, cap, cur, rfl, Nat.le_trans hb hB, rest⟩
/-- what a text comes to. -/
def PrR (R : Except PE (List Or × List Nd)) (ov nv : Value) (os : List Or) (ns : List Nd) (pl er : Int) : Prop := match R with
  | .ok p => os = p.1 ∧ ns = p.2 ∧ pl = 0 ∧ er = 0
  | .error x => ov = .slice none 0 0 ∧ nv = .slice none 0 0 ∧ os = [] ∧ ns = [] ∧ pl = x.2 ∧ er = x.1
def PrP (R : Except PE (List Or × List Nd)) (w : World) (e : Ending) (w' : World) : Prop := ∃ ov nv os ns pl er, e = .returned (.tuple #[.agg #[ov, nv], .int .i64 pl, .int .i64 er]) ∧ OwnO w.heap.size w' ov os ∧ OwnN w.heap.size w' nv ns ∧ Below w.heap.size w w' ∧ PrR R ov nv os ns pl er
theorem prp_ok {R : Except PE (List Or × List Nd)} {w w' : World} {e : Ending} {os : List Or} {ns : List Nd} (h : PrP R w e w') (hr : R = .ok (os, ns)) : ∃ a c a2 c2, e = .returned (.tuple #[.agg #[.slice a os.length c, .slice a2 ns.length c2], .int .i64 0, .int .i64 0]) ∧ Below w.heap.size w w' ∧ OwnO w.heap.size w' (.slice a os.length c) os ∧ OwnN w.heap.size w' (.slice a2 ns.length c2) ns := by
  subst hr
  obtain ⟨ov, nv, os, ns, pl, er, rfl, ho, hn, hb, rfl, rfl, rfl, rfl⟩ := h
  obtain ⟨a, c, rfl⟩ := owno_sl ho
  obtain ⟨a2, c2, rfl⟩ := own_sl hn
  exact ⟨a, c, a2, c2, rfl, hb, ho, hn⟩
theorem prp_no {R : Except PE (List Or × List Nd)} {w w' : World} {e : Ending} {x : PE} (h : PrP R w e w') (hr : R = .error x) : e = .returned (.tuple #[.agg #[.slice none 0 0, .slice none 0 0], .int .i64 x.2, .int .i64 x.1]) ∧ Below w.heap.size w w' := by
  subst hr
  obtain ⟨ov, nv, os, ns, pl, er, rfl, ho, hn, hb, rfl, rfl, rfl, rfl, rfl, rfl⟩ := h
  exact ⟨rfl, hb⟩
/-- the parser's object, laid. -/
theorem pq_start {w1 : World} {b : Nat} {v : Value} {ts : List Tk} (en : Int) (hK : OwnK b w1 v ts) (hl : ts.length ≤ 4096) :
    PqX (w1.heap.size + 1) w1.heap.size v ts en (.slice none 0 0) 0 (w1.alloc (.cells #[v, .int .i64 en, .int .i64 0, .int .i64 0, .slice none 0 0, .slice none 0 0, .nilIface] 42)) (.slice none 0 0) (.ok ⟨0, []⟩) := by
  have hc : ∀ (i : Nat) (u : Value), (#[v, .int .i64 en, .int .i64 0, .int .i64 0, .slice none 0 0, .slice none 0 0, .nilIface] : Array Value)[i]? = some u → (w1.alloc (.cells #[v, .int .i64 en, .int .i64 0, .int .i64 0, .slice none 0 0, .slice none 0 0, .nilIface] 42)).cell? ⟨w1.heap.size, i, none⟩ = some u := fun i u hu => by
    rw [World.cell?_alloc_at _ _ _ _ (by simp)]; exact hu
  refine (PqW.mk (hc 0 _ rfl) (hc 1 _ rfl) (hc 2 _ rfl) (hc 3 _ rfl) (hc 4 _ rfl) (hc 5 _ rfl) (hc 6 _ rfl) (Nat.lt_succ_self _) (by simp) (fun o => by simp) ?_ (OwnN.nil _ _) (Nat.zero_le _) (Nat.zero_le _) (Nat.le_trans hl (by decide)) (fun k hk => by cases hk) : PqW (w1.heap.size + 1) w1.heap.size v ts en (.slice none 0 0) 0 (w1.alloc (.cells #[v, .int .i64 en, .int .i64 0, .int .i64 0, .slice none 0 0, .slice none 0 0, .nilIface] 42)) (.slice none 0 0) ⟨0, []⟩ .nilIface)
  rcases hK.rd with ⟨rfl, a, c, rfl⟩ | ⟨g, c, rfl, hg, hs⟩
  · exact .inl ⟨rfl, a, c, rfl⟩
  · refine .inr ⟨g, c, rfl, by omega, by omega, by simp; omega, ?_⟩
    exact TkSl.bar (S := fun _ => False) hs (Bar.of_below (below_alc _ _)) id
/-- nothing has turned but the result's cells, and they hold no program. -/
structure KX (w : World) (P : Nat) (X : World) : Prop where
  b : Bar (fun k => k = P) w X
  c0 : X.cell? ⟨P, 0, none⟩ = some (.slice none 0 0)
  c1 : X.cell? ⟨P, 1, none⟩ = some (.slice none 0 0)
  f : ∀ o, X.frozen? ⟨P, o, none⟩ = false
theorem KX.drew {w X : World} {P : Nat} (h : KX w P X) : KX w P X.drew := ⟨h.b.next ((Below.refl _ _).drew), h.c0, h.c1, h.f⟩
theorem KX.set0 {w X : World} {P : Nat} (h : KX w P X) : KX w P (X.setCell ⟨P, 0, none⟩ (.slice none 0 0)) := ⟨h.b.trans (Bar.set (S := fun k => k = P) ⟨P, 0, none⟩ _ rfl) fun _ _ hs => hs, setS h.c0, setO h.c1 (by simp), fun o => by simp only [World.frozen?_setCell]; exact h.f o⟩
theorem KX.set1 {w X : World} {P : Nat} (h : KX w P X) : KX w P (X.setCell ⟨P, 1, none⟩ (.slice none 0 0)) := ⟨h.b.trans (Bar.set (S := fun k => k = P) ⟨P, 1, none⟩ _ rfl) fun _ _ hs => hs, setO h.c0 (by simp), setS h.c1, fun o => by simp only [World.frozen?_setCell]; exact h.f o⟩
theorem KX.next {w X Y : World} {P : Nat} (h : KX w P X) (hP : P < X.heap.size) (hb : Below X.heap.size X Y) : KX w P Y := ⟨h.b.next hb, carry hb hP h.c0, carry hb hP h.c1, fun o => (hb.frozen (p := ⟨P, o, none⟩) hP).trans (h.f o)⟩
set_option maxRecDepth 100000 in
set_option maxHeartbeats 8000000 in
theorem Parse_any (s : ByteArray) (w : World) (hs : s.size ≤ 1125899906842624) (hg : Hid (errTy w)) :
    Calls Tryz.prog 4 #[.string s] w (PrP (parseV s) w) := by
  have kT := Lib.hid fun (W : World) (hb : Below w.heap.size w W) => tokens_any s W hs (errTy_below hg.out hb)
  have hP := Lib.hid (show parseV s = if (lexR s).2.2 = 0 then progP (lexR s).1 s.size else .error (400, (lexR s).2.1) from rfl)
  have hlen := Lib.hid (lexR_len s)
  generalize parseV s = T at hP ⊢
  obtain ⟨⟨ts, pl, er⟩, hR⟩ : ∃ R, lexR s = R := ⟨_, rfl⟩
  rw [hR] at kT hP hlen
  clear hR
  have h0l := hgl hg.out
  have hsz : (s.size : Int) ≤ 1125899906842624 := by omega
  go_enter Tryz.func4, Tryz.ntmps4
  go_wp2_with fail
  refine (kT.out _ (by (repeat' (first | with_reducible exact Below.refl _ _ | with_reducible assumption | with_reducible apply Below.setCell | with_reducible apply Below.alloc | with_reducible apply Below.drew | with_reducible apply below_drewN | with_reducible exact Nat.le_refl _ | (simp; done) | (simp; omega) | omega | exact Nat.le_refl _)))).mono ?_
  rintro e1 w1 ⟨v, rfl, hK0, hb0⟩
  have hP0 : w.heap.size < (w.alloc (.cells #[.slice none 0 0, .slice none 0 0] 25)).heap.size := by simp
  have hc0 : w1.cell? ⟨w.heap.size, 0, none⟩ = some (.slice none 0 0) := carry hb0 hP0 (by rw [World.cell?_alloc_at _ _ _ _ rfl]; rfl)
  have hc1 : w1.cell? ⟨w.heap.size, 1, none⟩ = some (.slice none 0 0) := carry hb0 hP0 (by rw [World.cell?_alloc_at _ _ _ _ rfl]; rfl)
  have hf0 : ∀ o, w1.frozen? ⟨w.heap.size, o, none⟩ = false := fun o => (hb0.frozen (p := ⟨w.heap.size, o, none⟩) hP0).trans (by simp)
  have hb1 := Lib.hid (belT (below_alc w _) hb0)
  have hl1 : w.heap.size < w1.heap.size := Nat.lt_of_lt_of_le hP0 hb0.size
  clear hb0 hP0 kT
  have hK : OwnK (w.alloc (.cells #[.slice none 0 0, .slice none 0 0] 25)).heap.size w1 v ts := hK0
  clear hK0
  obtain ⟨av, cv, rfl⟩ : ∃ a c, v = .slice a ts.length c := by
    rcases hK.rd with ⟨h1, a, c, h2⟩ | ⟨g, c, h2, _⟩
    · exact ⟨a, c, by rw [h2, h1]; rfl⟩
    · exact ⟨_, c, h2⟩
  have hK := Lib.hid hK
  by_cases h0 : er = 0
  · subst h0
    have hP := Lib.hid (hP.out.trans (if_pos rfl))
    have hx := Lib.hid (pq_start (s.size : Int) hK.out hlen.out)
    have k2 := Lib.hid (program_any (w1.heap.size + 1) w1.heap.size _ ts s.size _ (by simp) hx)
    clear hK
    go_wp2_with fail
    refine k2.out.mono ?_
    rintro e2 w3 ⟨ov, os, nv, RF, rfl, hp, ho, hl5, hB, hprog0⟩
    have hB1 : Bar (fun k => k = w1.heap.size) w1 w3 := (Bar.of_below (S := fun k => k = w1.heap.size) (below_alc w1 _)).trans hB fun _ _ hs => hs
    have hc0 := hB1.cell hc0 (by show ¬ w.heap.size = _; omega)
    have hc1 := hB1.cell hc1 (by show ¬ w.heap.size = _; omega)
    have hf0 : ∀ o, w3.frozen? ⟨w.heap.size, o, none⟩ = false := fun o => (hB1.frozen (a := ⟨w.heap.size, o, none⟩) hl1 (by show ¬ w.heap.size = _; omega)).trans (hf0 o)
    have hb3 := Lib.hid (show Below w.heap.size w w3 from hb1.out.trans (hB1.below (B := w.heap.size) (by omega) (fun k hk => by have hk : k = w1.heap.size := hk; omega)))
    have hg3 := Lib.hid (errTy_below hg.out hb3.out)
    have hl3 : w1.heap.size < w3.heap.size := by have := hp.lt; omega
    have ho3 := Lib.hid (show OwnO (w.heap.size + 1) w3 ov os from owns_mono ho (by omega))
    have hprog := Lib.hid hprog0
    have hP3 : w.heap.size < w3.heap.size := by omega
    clear hprog0 k2 hB hB1 hx ho
    rcases RF with x | st
    · obtain ⟨st3, ev3, h3, F, v3, rfl, hF1, hF2, hF3, hF4, hF5, hF6, hF7, hF8⟩ := hp
      have hx2 := Lib.hid hF7
      have g6 := h3.r
      have hT : Hid (T = .error x) := Lib.hid (hP.out.trans hprog.out)
      clear hprog hP ho3 h3 hF3 hF4 hF7 hF8
      go_wp2_with fail
      refine (PsA.as_hit ⟨F, 0, none⟩ ⟨w3.heap.size, 0, none⟩ (.pointer none) _ (errTy_below hg3.out (by (repeat' (first | with_reducible exact Below.refl _ _ | with_reducible assumption | with_reducible apply Below.setCell | with_reducible apply Below.alloc | with_reducible apply Below.drew | with_reducible apply below_drewN | with_reducible exact Nat.le_refl _ | (simp; done) | (simp; omega) | omega | exact Nat.le_refl _)))) (by simp) (by simp)).mono ?_
      rintro e4 w4 ⟨rfl, W0, hW0, hw4⟩
      have y0 : w4.cell? ⟨w3.heap.size, 0, none⟩ = some (.pointer (some ⟨F, 0, none⟩)) := by rw [hw4]; exact set_old hW0 (by simp) (by simp; rfl)
      have hb40 : Below w3.heap.size w3 w4 := by rw [hw4]; exact set_below (by (repeat' (first | with_reducible exact Below.refl _ _ | with_reducible assumption | with_reducible apply Below.setCell | with_reducible apply Below.alloc | with_reducible apply Below.drew | with_reducible apply below_drewN | with_reducible exact Nat.le_refl _ | (simp; done) | (simp; omega) | omega | exact Nat.le_refl _))) hW0 (by simp) (by simp)
      clear hw4 hW0
      have y1 := carry hb40 hF1 hF5
      have y2 := carry hb40 hF1 hF6
      have y3 := carry hb40 hl3 g6
      have y4 := carry hb40 hP3 hc0
      have y5 := carry hb40 hP3 hc1
      have y6 : ∀ o, w4.frozen? ⟨w.heap.size, o, none⟩ = false := fun o => (hb40.frozen (p := ⟨w.heap.size, o, none⟩) hP3).trans (hf0 o)
      have hl4 : w3.heap.size ≤ w4.heap.size := hb40.size
      have hg4 := Lib.hid (errTy_below hg3.out hb40)
      have hb4 := Lib.hid (hb3.out.trans (hb40.mono (show w.heap.size ≤ w3.heap.size by omega)))
      have hPF : w.heap.size ≠ F := by
        intro e
        rw [← e, y4] at y1
        cases y1
      have hK4 : Hid (KX w4 w.heap.size w4) := Lib.hid ⟨Bar.refl _ _, y4, y5, y6⟩
      have kC := Lib.hid fun (X : World) (hX : KX w4 w.heap.size X) => (code_any F v3 x.1 X (Lib.hid (hX.b.cell hg4.out (by show ¬ 0 = w.heap.size; omega))) (Lib.hid (hX.b.cell y2 (by show ¬ F = w.heap.size; omega))) (by have := hX.b.size; omega) hx2.out).mono (R' := fun e w' => e = .returned (.int .i64 x.1) ∧ KX w4 w.heap.size w') (fun e w' he => ⟨he.1, hX.next (by have := hX.b.size; omega) he.2⟩)
      have hPW : ¬ w3.heap.size = w.heap.size := by omega
      have hPF' : ¬ F = w.heap.size := fun e => hPF e.symm
      have hfin : Hid (∀ X, KX w4 w.heap.size X → PrP T w (.returned (.tuple #[.agg #[.slice none 0 0, .slice none 0 0], .int .i64 x.2, .int .i64 x.1])) X) := Lib.hid fun X hX => ⟨_, _, [], [], x.2, x.1, rfl, OwnO.nil _ _, OwnN.nil _ _, hb4.out.trans (hX.b.below (B := w.heap.size) (by omega) (fun k hk => by have hk : k = w.heap.size := hk; omega)), by rw [hT.out]; exact ⟨rfl, rfl, rfl, rfl, rfl, rfl⟩⟩
      clear hF5 hF6 g6 hc0 hc1 hf0 hb40 hT y2
      go_upto_region 8 with fail
      go_region_with ((go_at_call 13; refine (kC.out _ (by repeat' (first | exact hK4.out | with_reducible apply KX.set0 | with_reducible apply KX.set1 | with_reducible apply KX.drew))).mono ?_; rintro e5 w5 ⟨rfl, hk5⟩; have u0 := hk5.b.cell y0 hPW; have u1 := hk5.b.cell y1 hPF'; have u4 := hk5.c0; have u5 := hk5.c1; have u6 := hk5.f; have hk5 := Lib.hid hk5))
      all_goals (go_wp2_with fail; refine bodyPost_ret (v := .tuple #[.agg #[.slice none 0 0, .slice none 0 0], .int .i64 x.2, .int .i64 x.1]) (by simp [results, Tryz.results4, go_sem, u4, u5]) rfl (hfin.out _ (by repeat' (first | exact hk5.out | with_reducible apply KX.set0 | with_reducible apply KX.set1 | with_reducible apply KX.drew))))
    · replace hp : PqW (w1.heap.size + 1) w1.heap.size (.slice av ts.length cv) ts s.size ov 0 w3 nv st .nilIface := hp
      have hn3 := Lib.hid (show OwnN (w.heap.size + 1) w3 nv st.ns from owns_mono hp.own (by omega))
      obtain ⟨a, c, rfl⟩ := owno_sl ho3.out
      obtain ⟨a2, c2, rfl⟩ := own_sl hn3.out
      have g4 := hp.o; have g5 := hp.n; have g6 := hp.r
      have hT : Hid (T = .ok (os, st.ns)) := Lib.hid (hP.out.trans hprog.out)
      clear hp hprog hP
      go_wp2_with fail
      refine (as_nil _ _).mono ?_
      rintro e4 w4 ⟨rfl, rfl⟩
      go_wp2_with fail
      have hz0 : (((w3.setCell ⟨w.heap.size, 0, none⟩ (.slice a os.length c)).setCell ⟨w.heap.size, 1, none⟩ (.slice a2 st.ns.length c2)).alloc (.cells #[.pointer none] 43)).cell? ⟨w.heap.size, 0, none⟩ = some (.slice a os.length c) := by
        rw [World.cell?_alloc_lt _ _ ⟨w.heap.size, 0, none⟩ (by simpa using hP3)]; exact setO (setS hc0) (by simp)
      have hz1 : (((w3.setCell ⟨w.heap.size, 0, none⟩ (.slice a os.length c)).setCell ⟨w.heap.size, 1, none⟩ (.slice a2 st.ns.length c2)).alloc (.cells #[.pointer none] 43)).cell? ⟨w.heap.size, 1, none⟩ = some (.slice a2 st.ns.length c2) := by
        rw [World.cell?_alloc_lt _ _ ⟨w.heap.size, 1, none⟩ (by simpa using hP3)]; exact setS (setO hc1 (by simp))
      have hS3 : Bar (fun k => k = w.heap.size) w3 (((w3.setCell ⟨w.heap.size, 0, none⟩ (.slice a os.length c)).setCell ⟨w.heap.size, 1, none⟩ (.slice a2 st.ns.length c2)).alloc (.cells #[.pointer none] 43)) := Bar.next ((Bar.set (S := fun k => k = w.heap.size) ⟨w.heap.size, 0, none⟩ _ rfl).trans (Bar.set (S := fun k => k = w.heap.size) ⟨w.heap.size, 1, none⟩ _ rfl) fun _ _ hs => hs) (below_alc _ _)
      refine bodyPost_ret (v := .tuple #[.agg #[.slice a os.length c, .slice a2 st.ns.length c2], .int .i64 0, .int .i64 0]) (by simp [results, Tryz.results4, go_sem, hz0, hz1]) rfl ⟨_, _, os, st.ns, 0, 0, rfl, owns_mono (Bar.own hS3 ho3.out fun k hk (e : k = w.heap.size) => by have := (owno_lt ho3.out k hk).1; omega) (Nat.le_succ _), owns_mono (Bar.own hS3 hn3.out fun k hk (e : k = w.heap.size) => by have := (own_lt hn3.out k hk).1; omega) (Nat.le_succ _), hb3.out.trans (hS3.below (B := w.heap.size) (by omega) (fun k hk => by have hk : k = w.heap.size := hk; omega)), by rw [hT.out]; exact ⟨rfl, rfl, rfl, rfl⟩⟩
  · have e0 : (er == 0) = false := beq_eq_false_iff_ne.2 h0
    have hP := Lib.hid (hP.out.trans (if_neg h0))
    clear hK h0
    go_wp2_with fail
    refine bodyPost_ret (v := .tuple #[.agg #[.slice none 0 0, .slice none 0 0], .int .i64 pl, .int .i64 400]) (by simp [results, Tryz.results4, go_sem, hc0, hc1]) rfl ⟨_, _, [], [], pl, 400, rfl, OwnO.nil _ _, OwnN.nil _ _, ?_, by rw [hP.out]; exact ⟨rfl, rfl, rfl, rfl, rfl, rfl⟩⟩
    exact hb1.out.trans ((Bar.trans (S := fun k => k = w.heap.size) (Bar.set (S := fun k => k = w.heap.size) ⟨w.heap.size, 0, none⟩ _ rfl) (Bar.set (S := fun k => k = w.heap.size) ⟨w.heap.size, 1, none⟩ _ rfl) fun _ _ hs => hs).below (B := w.heap.size) (by omega) (fun k hk => by have hk : k = w.heap.size := hk; omega))
end Go.Proofs.YtnhfbbognjdnpaaGreatDoor
