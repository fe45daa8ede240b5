/- Programs that are the same. -/
import Derived.Test.YtnhfbbognjdnpaaGreatDoorPrg
import Derived.Test.YtnhfbbognjdnpaaGreatDoorPgA
/- Programs that are the same. -/
namespace Go.Proofs.YtnhfbbognjdnpaaGreatDoor
open Go.RowKit
set_option linter.unusedVariables false
set_option linter.unusedSimpArgs false

set_option maxRecDepth 100000 in
set_option maxHeartbeats 2000000 in
theorem sameProg_any (ao an bo bn : Option Addr) (no co nn cn mo do_ mn dn : Nat) (os : List Or) (ts : List Nd) (w : World) (h1 : Hid (OArg w ao no os)) (h2 : Hid (NArg w an nn ts)) (h3 : Hid (OArg w bo mo os)) (h4 : Hid (NArg w bn mn ts)) (hl1 : no ≤ 140737488351232) (hl2 : nn ≤ 140737488351232) :
    Calls Tryz.prog 6 #[.agg #[.slice ao no co, .slice an nn cn], .agg #[.slice bo mo do_, .slice bn mn dn]] w fun e w' => e = .returned (.bool true) ∧ Below w.heap.size w w' := by
  go_enter Tryz.func6, Tryz.ntmps6
  go_upto_region 1 with fail
  obtain ⟨w0, hw0⟩ : ∃ W, ((w.alloc (.cells #[.slice ao no co, .slice an nn cn] 25)).alloc (.cells #[.slice bo mo do_, .slice bn mn dn] 25)) = W := ⟨_, rfl⟩
  have hP : Hid (Pg w0 w.heap.size ao no co an nn cn) := Lib.hid (by rw [← hw0]; exact (pg_lit w 25 _ rfl _ _ _ _ _ _).below (below_alc _ _))
  have hQ : Hid (Pg w0 (w.heap.size + 1) bo mo do_ bn mn dn) := Lib.hid (by rw [← hw0]; exact pg_lit _ _ _ (by simp) _ _ _ _ _ _)
  have hB : Hid (Below w.heap.size w w0) := Lib.hid (by rw [← hw0]; exact belA _ (below_alc _ _))
  rw [hw0]
  clear hw0
  have kO := Lib.hid (sameOps_any ao bo no mo co do_ os os w0 (Lib.hid (h1.out.below hB.out)) (Lib.hid (h3.out.below hB.out)) hl1)
  rw [sameVO_self] at kO
  obtain ⟨q0, q1, q2⟩ := hP.out
  obtain ⟨r0, r1, r2⟩ := hQ.out
  go_wp2_with fail
  clear q0 q1 q2 r0 r1 r2
  refine kO.out.mono ?_
  rintro e w1 ⟨rfl, hb⟩
  have hP := Lib.hid (hP.out.below hb)
  have hQ := Lib.hid (hQ.out.below hb)
  have hB := Lib.hid (belT hB.out hb)
  clear hb kO
  have kN := Lib.hid (sameNodes_any an bn nn mn cn dn ts ts w1 (Lib.hid (h2.out.below hB.out)) (Lib.hid (h4.out.below hB.out)) hl2)
  rw [sameV_self ndE_self] at kN
  obtain ⟨q0, q1, q2⟩ := hP.out
  obtain ⟨r0, r1, r2⟩ := hQ.out
  go_wp2_with fail
  clear q0 q1 q2 r0 r1 r2
  refine kN.out.mono ?_
  rintro e w2 ⟨rfl, hb⟩
  have hB := Lib.hid (belT hB.out hb)
  clear hb kN
  go_wp2_with fail
  go_ret
  exact ⟨rfl, hB.out⟩
end Go.Proofs.YtnhfbbognjdnpaaGreatDoor

/- Programs written over. -/
namespace Go.Proofs.YtnhfbbognjdnpaaGreatDoor
open Go.RowKit
set_option linter.unusedVariables false
set_option linter.unusedSimpArgs false

set_option maxHeartbeats 1000000 in
theorem spoilO_zero (a : Option Addr) (c : Nat) (w : World) : Calls Tryz.prog 24 #[.slice a 0 c] w fun e w' => e = .returned (.tuple #[]) ∧ w = w' := by
  go_enter Tryz.func24, Tryz.ntmps24
  go_wp2_with fail
  go_loop [2] (fun i => i = .int .i64 0) (fun _ => 0)
  case atStart => rfl
  case round =>
    obtain rfl := hrel
    go_wp2_with fail
    go_end0
    exact ⟨rfl, rfl⟩
set_option maxHeartbeats 1000000 in
theorem spoilN_zero (a : Option Addr) (c : Nat) (w : World) : Calls Tryz.prog 25 #[.slice a 0 c] w fun e w' => e = .returned (.tuple #[]) ∧ w = w' := by
  go_enter Tryz.func25, Tryz.ntmps25
  go_wp2_with fail
  go_loop [2] (fun i => i = .int .i64 0) (fun _ => 0)
  case atStart => rfl
  case round =>
    obtain rfl := hrel
    go_wp2_with fail
    go_end0
    exact ⟨rfl, rfl⟩
set_option maxHeartbeats 1000000 in
theorem spoilO_sl (g cp : Nat) (l : List Or) (w : World) (h : Hid (OrSl w g 0 l)) (hf : Hid (∀ o, w.frozen? ⟨g, o, none⟩ = false)) (hl : l.length ≤ 1099511627776) :
    Calls Tryz.prog 24 #[.slice (some ⟨g, 0, none⟩) l.length cp] w fun e w' => e = .returned (.tuple #[]) ∧ Below g w w' ∧ Only g w w' := by
  go_enter Tryz.func24, Tryz.ntmps24
  go_wp2_with fail
  go_loopw [2] (fun i wr => ∃ j : Nat, j ≤ l.length ∧ i = .int .i64 j ∧ Hid (Below g w wr ∧ Only g w wr ∧ ∀ k, j ≤ k → k < l.length → wr.cell? ⟨g, k * 3 + 2, none⟩ = some (.int .i64 (l.getD k or0).t))) (fun i _ => l.length - (intOf i).toNat)
  case atStart => exact ⟨0, by omega, rfl, Lib.hid ⟨Below.refl _ _, Only.refl _ _, fun k _ hk => by have := (h.out k hk).2.2; simpa using this⟩⟩
  case round =>
    obtain ⟨j, hj, rfl, hI⟩ := hrel
    by_cases hlt : j < l.length
    · have hc := hI.out.2.2 j (Nat.le_refl _) hlt
      have hz : wr.frozen? ⟨g, j * 3 + 2, none⟩ = false := by rw [hI.out.2.1.2.2]; exact hf.out _
      generalize (l.getD j or0).t = t at hc
      have hlt' : (j : Int) < (l.length : Int) := by omega
      have hj0 : (0 : Int) ≤ (j : Int) := by omega
      go_wp2_with fail
      go_roundw
      case rel =>
        refine ⟨j + 1, by omega, by go_num, Lib.hid ⟨hI.out.1.setCell (Nat.le_refl _) _, hI.out.2.1.set _, fun k hk hk2 => ?_⟩⟩
        rw [World.cell?_setCell_other _ _ _ _ (by intro e; injection e with _ e2; simp at e2; omega)]
        exact hI.out.2.2 k (by omega) hk2
      case measure => simp [intOf]; omega
    · go_wp2_with fail
      go_end0
      exact ⟨rfl, hI.out.1, hI.out.2.1⟩
/-- nodes that may be written over. -/
def NSp (B : Nat) (w : World) (a : Option Addr) (ts : List Nd) : Prop := ts = [] ∨ ∃ N, a = some ⟨N, 0, none⟩ ∧ B ≤ N ∧ N < w.heap.size ∧ NdSl w N 0 ts ∧ ∀ o, w.frozen? ⟨N, o, none⟩ = false
theorem NSp.below {B : Nat} {w w' : World} {a : Option Addr} {ts : List Nd} (h : NSp B w a ts) (hb : Below w.heap.size w w') : NSp B w' a ts := by
  rcases h with h | ⟨N, h1, h2, h3, h4, h5⟩
  · exact .inl h
  · exact .inr ⟨N, h1, h2, by have := hb.size; omega, h4.below hb h3, fun o => by rw [hb.frozen (p := ⟨N, o, none⟩) h3]; exact h5 o⟩
theorem NSp.arg {B : Nat} {w : World} {a : Option Addr} {ts : List Nd} (h : NSp B w a ts) : NArg w a ts.length ts := by
  rcases h with rfl | ⟨N, h1, h2, h3, h4, h5⟩
  · exact ⟨rfl, .inl rfl⟩
  · exact ⟨rfl, .inr ⟨N, 0, h1, h4, h3⟩⟩
set_option maxRecDepth 100000 in
set_option maxHeartbeats 2000000 in
theorem spoilProg_any (B : Nat) (ao : Option Addr) (co : Nat) (an : Option Addr) (cn : Nat) (os : List Or) (ts : List Nd) (w : World) (hB : B ≤ w.heap.size) (hO : Hid (OwnO B w (.slice ao os.length co) os)) (hN : Hid (NSp B w an ts)) (hl : os.length ≤ 1000000) (hl2 : ts.length ≤ 1000000) :
    Calls Tryz.prog 8 #[.agg #[.slice ao os.length co, .slice an ts.length cn]] w fun e w' => e = .returned (.tuple #[]) ∧ Below B w w' := by
  obtain ⟨w0, hw0⟩ : ∃ W, w.alloc (.cells #[.slice ao os.length co, .slice an ts.length cn] 25) = W := ⟨_, rfl⟩
  have hP : Hid (Pg w0 w.heap.size ao os.length co an ts.length cn) := Lib.hid (by rw [← hw0]; exact pg_lit _ _ _ rfl _ _ _ _ _ _)
  have hb0 : Below w.heap.size w w0 := by rw [← hw0]; exact below_alc _ _
  have hO0 := Lib.hid (hO.out.below hb0)
  have hN0 := Lib.hid (hN.out.below hb0)
  have hB0 : Hid (Below B w w0) := Lib.hid (hb0.mono hB)
  have hlt := Lib.hid (own_lt hO.out)
  have key : Calls Tryz.prog 24 #[.slice ao os.length co] w0 fun e w' => e = .returned (.tuple #[]) ∧ Below B w w' ∧ Pg w' w.heap.size ao os.length co an ts.length cn ∧ NSp B w' an ts := by
    by_cases h0 : os = []
    · subst h0
      refine (spoilO_zero ao co w0).mono ?_
      rintro e w' ⟨rfl, rfl⟩
      exact ⟨rfl, hB0.out, hP.out, hN0.out⟩
    · rcases hO0.out.cases with ⟨_, h1⟩ | ⟨g, c, h1, hg1, hg2, _, hgs, hgf⟩
      · exact absurd h1 h0
      · injection h1 with h1 _ h2
        subst h1; subst h2
        refine (spoilO_sl g co os w0 (Lib.hid hgs) (Lib.hid hgf) (by omega)).mono ?_
        rintro e w' ⟨rfl, hb, ho⟩
        have hgw := (hlt.out g rfl).2
        refine ⟨rfl, hB0.out.trans (hb.mono hg1), ⟨by have := hP.out.1; have := ho.1; omega, by rw [ho.2.1 _ (by show w.heap.size ≠ g; omega)]; exact hP.out.2.1, by rw [ho.2.1 _ (by show w.heap.size ≠ g; omega)]; exact hP.out.2.2⟩, ?_⟩
        rcases hN0.out with h3 | ⟨N, h3, h4, h5, h6, h7⟩
        · exact .inl h3
        · by_cases ht : ts = []
          · exact .inl ht
          · have hne : N ≠ g := by
              intro e
              subst e
              have hlo : 0 < os.length := List.length_pos_iff.2 h0
              have hlt : 0 < ts.length := List.length_pos_iff.2 ht
              have e1 := (hgs 0 hlo).1
              have e2 := (h6 0 hlt).1
              simp only [Nat.zero_mul, Nat.add_zero] at e1 e2
              rw [e1] at e2; cases e2
            refine .inr ⟨N, h3, h4, by have := ho.1; omega, fun i hi => ?_, fun o => by rw [ho.2.2]; exact h7 o⟩
            obtain ⟨e0, e1, e2, e3, e4, e5, e6, e7, e8, e9⟩ := h6 i hi
            exact ⟨(ho.2.1 _ hne).trans e0, (ho.2.1 _ hne).trans e1, (ho.2.1 _ hne).trans e2, (ho.2.1 _ hne).trans e3, (ho.2.1 _ hne).trans e4, (ho.2.1 _ hne).trans e5, (ho.2.1 _ hne).trans e6, (ho.2.1 _ hne).trans e7, (ho.2.1 _ hne).trans e8, (ho.2.1 _ hne).trans e9⟩
  have key := Lib.hid key
  go_enter Tryz.func8, Tryz.ntmps8
  go_upto_region 1 with fail
  (try rw [hw0])
  clear hw0 hO0 hN0
  obtain ⟨p0, p1, p2⟩ := hP.out
  go_wp2_with fail
  clear p0 p1 p2
  refine key.out.mono ?_
  rintro e w1 ⟨rfl, hb, hP1, hN1⟩
  have hB1 := Lib.hid hb
  have hN1 := Lib.hid hN1
  have key2 : Hid (Calls Tryz.prog 25 #[.slice an ts.length cn] w1 fun e w' => e = .returned (.tuple #[]) ∧ Below B w w') := Lib.hid (by
    by_cases h0 : ts = []
    · subst h0
      refine (spoilN_zero an cn w1).mono ?_
      rintro e w' ⟨rfl, rfl⟩
      exact ⟨rfl, hB1.out⟩
    · rcases hN1.out with h3 | ⟨N, rfl, h4, h5, h6, h7⟩
      · exact absurd h3 h0
      · refine (spoilN_sl N cn ts w1 (Lib.hid h6) (Lib.hid h7) (by omega)).mono ?_
        rintro e w' ⟨rfl, hb, _⟩
        exact ⟨rfl, hB1.out.trans (hb.mono h4)⟩)
  clear key hP hb hB0
  obtain ⟨p0, p1, p2⟩ := hP1
  go_wp2_with fail
  clear p0 p1 p2
  refine key2.out.mono ?_
  rintro e w2 ⟨rfl, hb⟩
  go_wp2_with fail
  go_end0
  exact ⟨rfl, hb⟩
set_option maxRecDepth 100000 in
set_option maxHeartbeats 2000000 in
/-- the same, and what is in other blocks. -/
theorem spoilProg_oth (B : Nat) (ao : Option Addr) (co : Nat) (an : Option Addr) (cn : Nat) (os : List Or) (ts : List Nd) (w : World) (hB : B ≤ w.heap.size) (hO : Hid (OwnO B w (.slice ao os.length co) os)) (hN : Hid (NSp B w an ts)) (hl : os.length ≤ 1000000) (hl2 : ts.length ≤ 1000000) :
    Calls Tryz.prog 8 #[.agg #[.slice ao os.length co, .slice an ts.length cn]] w fun e w' => e = .returned (.tuple #[]) ∧ Below B w w' ∧ (∀ p : Addr, p.block < w.heap.size → (Value.slice ao os.length co).ownBlock ≠ some p.block → (Value.slice an ts.length cn).ownBlock ≠ some p.block → w'.cell? p = w.cell? p) := by
  obtain ⟨w0, hw0⟩ : ∃ W, w.alloc (.cells #[.slice ao os.length co, .slice an ts.length cn] 25) = W := ⟨_, rfl⟩
  have hP : Hid (Pg w0 w.heap.size ao os.length co an ts.length cn) := Lib.hid (by rw [← hw0]; exact pg_lit _ _ _ rfl _ _ _ _ _ _)
  have hb0 : Below w.heap.size w w0 := by rw [← hw0]; exact below_alc _ _
  have hO0 := Lib.hid (hO.out.below hb0)
  have hN0 := Lib.hid (hN.out.below hb0)
  have hB0 : Hid (Below B w w0) := Lib.hid (hb0.mono hB)
  have hlt := Lib.hid (own_lt hO.out)
  have hc0 : ∀ p : Addr, p.block < w.heap.size → w0.cell? p = w.cell? p := fun p hp => hb0.cell hp
  have key : Calls Tryz.prog 24 #[.slice ao os.length co] w0 fun e w' => e = .returned (.tuple #[]) ∧ Below B w w' ∧ Pg w' w.heap.size ao os.length co an ts.length cn ∧ NSp B w' an ts ∧ (∀ p : Addr, p.block < w.heap.size → (Value.slice ao os.length co).ownBlock ≠ some p.block → (Value.slice an ts.length cn).ownBlock ≠ some p.block → w'.cell? p = w.cell? p) := by
    by_cases h0 : os = []
    · subst h0
      refine (spoilO_zero ao co w0).mono ?_
      rintro e w' ⟨rfl, rfl⟩
      exact ⟨rfl, hB0.out, hP.out, hN0.out, fun p hp _ _ => hc0 p hp⟩
    · rcases hO0.out.cases with ⟨_, h1⟩ | ⟨g, c, h1, hg1, hg2, _, hgs, hgf⟩
      · exact absurd h1 h0
      · injection h1 with h1 _ h2
        subst h1; subst h2
        refine (spoilO_sl g co os w0 (Lib.hid hgs) (Lib.hid hgf) (by omega)).mono ?_
        rintro e w' ⟨rfl, hb, ho⟩
        have hgw := (hlt.out g rfl).2
        refine ⟨rfl, hB0.out.trans (hb.mono hg1), ⟨by have := hP.out.1; have := ho.1; omega, by rw [ho.2.1 _ (by show w.heap.size ≠ g; omega)]; exact hP.out.2.1, by rw [ho.2.1 _ (by show w.heap.size ≠ g; omega)]; exact hP.out.2.2⟩, ?_, fun p hp h1 _ => (ho.2.1 p (fun e => h1 (by rw [e]; rfl))).trans (hc0 p hp)⟩
        rcases hN0.out with h3 | ⟨N, h3, h4, h5, h6, h7⟩
        · exact .inl h3
        · by_cases ht : ts = []
          · exact .inl ht
          · have hne : N ≠ g := by
              intro e
              subst e
              have hlo : 0 < os.length := List.length_pos_iff.2 h0
              have hlt : 0 < ts.length := List.length_pos_iff.2 ht
              have e1 := (hgs 0 hlo).1
              have e2 := (h6 0 hlt).1
              simp only [Nat.zero_mul, Nat.add_zero] at e1 e2
              rw [e1] at e2; cases e2
            refine .inr ⟨N, h3, h4, by have := ho.1; omega, fun i hi => ?_, fun o => by rw [ho.2.2]; exact h7 o⟩
            obtain ⟨e0, e1, e2, e3, e4, e5, e6, e7, e8, e9⟩ := h6 i hi
            exact ⟨(ho.2.1 _ hne).trans e0, (ho.2.1 _ hne).trans e1, (ho.2.1 _ hne).trans e2, (ho.2.1 _ hne).trans e3, (ho.2.1 _ hne).trans e4, (ho.2.1 _ hne).trans e5, (ho.2.1 _ hne).trans e6, (ho.2.1 _ hne).trans e7, (ho.2.1 _ hne).trans e8, (ho.2.1 _ hne).trans e9⟩
  have key := Lib.hid key
  go_enter Tryz.func8, Tryz.ntmps8
  go_upto_region 1 with fail
  (try rw [hw0])
  clear hw0 hO0 hN0 hc0
  obtain ⟨p0, p1, p2⟩ := hP.out
  go_wp2_with fail
  clear p0 p1 p2
  refine key.out.mono ?_
  rintro e w1 ⟨rfl, hb, hP1, hN1, hoth⟩
  have hoth := Lib.hid hoth
  have hB1 := Lib.hid hb
  have hN1 := Lib.hid hN1
  have key2 : Hid (Calls Tryz.prog 25 #[.slice an ts.length cn] w1 fun e w' => e = .returned (.tuple #[]) ∧ Below B w w' ∧ (∀ p : Addr, p.block < w.heap.size → (Value.slice ao os.length co).ownBlock ≠ some p.block → (Value.slice an ts.length cn).ownBlock ≠ some p.block → w'.cell? p = w.cell? p)) := Lib.hid (by
    by_cases h0 : ts = []
    · subst h0
      refine (spoilN_zero an cn w1).mono ?_
      rintro e w' ⟨rfl, rfl⟩
      exact ⟨rfl, hB1.out, hoth.out⟩
    · rcases hN1.out with h3 | ⟨N, rfl, h4, h5, h6, h7⟩
      · exact absurd h3 h0
      · refine (spoilN_sl N cn ts w1 (Lib.hid h6) (Lib.hid h7) (by omega)).mono ?_
        rintro e w' ⟨rfl, hb, ho⟩
        exact ⟨rfl, hB1.out.trans (hb.mono h4), fun p hp h1 h2 => (ho.2.1 p (fun e => h2 (by rw [e]; rfl))).trans (hoth.out p hp h1 h2)⟩)
  clear key hP hb hB0
  obtain ⟨p0, p1, p2⟩ := hP1
  go_wp2_with fail
  clear p0 p1 p2
  refine key2.out.mono ?_
  rintro e w2 ⟨rfl, hb⟩
  go_wp2_with fail
  go_end0
  exact ⟨rfl, hb⟩
end Go.Proofs.YtnhfbbognjdnpaaGreatDoor
