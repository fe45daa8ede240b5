/- TreeParts holds for every program and every place. No condition but that the listed package variable holds what the program's text lays. -/
import Derived.Test.YtdkpggnnhdoklaaDoorNdAw
import Derived.Test.YtdkpggnnhdoklaaDoorNdIn
import Derived.Test.YtdkpggnnhdoklaaDoorPrg
import Derived.Test.YtdkpggnnhdoklaaDoorPtA
import Derived.Test.YtdkpggnnhdoklaaDoorAid
import Derived.Test.YtdkpggnnhdoklaaDoorLnd
import Derived.Test.YtdkpggnnhdoklaaDoorCards
import Derived.Test.YtdkpggnnhdoklaaDoorTie
import Derived.Test.YtdkpggnnhdoklaaDoorOpn
import Derived.Test.YtdkpggnnhdoklaaDoorHan
import Derived.WalkKit
import Derived.ProofKit
import Derived.Deep.DeepHandedRow
namespace Go.Proofs.YtdkpggnnhdoklaaDoor.treeParts
open Go.ChangeShapes Go.WideShapes Go.ChangeAt Go.RowKit
open Go.ChangeMaps (open_string shut_string)
set_option linter.unusedVariables false
set_option linter.unusedSimpArgs false

theorem tabs {W : World} (h : laidMetH Tryd.prog Rows.treePartsRow.laid W) : Hid (errTy W) := Lib.hid (errTy_of h (.head _))
/-- what stays through the calls. -/
def Keep (w : World) (ns ts : List Nd) (g n c : Nat) (va : Value) (W : World) : Prop :=
  Below w.heap.size w W ∧ OwnN w.heap.size W (.slice (some ⟨g, 0, none⟩) n c) ns ∧ OwnN w.heap.size W va ts ∧ Hid (errTy W)
theorem Keep.go {w : World} {ns ts : List Nd} {g n c : Nat} {va : Value} {W W' : World} (h : Keep w ns ts g n c va W) (hb : Below W.heap.size W W') : Keep w ns ts g n c va W' :=
  ⟨belT h.1 hb, h.2.1.below hb, h.2.2.1.below hb, Lib.hid (errTy_below h.2.2.2.out hb)⟩
theorem s_step {w : World} {ns ts : List Nd} {g n c b : Nat} {va x y : Value} {W W' : World}
    (h : W.cell? ⟨b, 0, none⟩ = some x ∧ W.cell? ⟨b, 1, none⟩ = some y ∧ Keep w ns ts g n c va W) (hb : Below W.heap.size W W') :
    W'.cell? ⟨b, 0, none⟩ = some x ∧ W'.cell? ⟨b, 1, none⟩ = some y ∧ Keep w ns ts g n c va W' :=
  ⟨carry hb (World.block_lt_of_cell? _ _ h.1) h.1, carry hb (World.block_lt_of_cell? _ _ h.2.1) h.2.1, h.2.2.go hb⟩
theorem s_all {w : World} {ns ts : List Nd} {g n c b : Nat} {va x y : Value} {W : World}
    (h : W.cell? ⟨b, 0, none⟩ = some x ∧ W.cell? ⟨b, 1, none⟩ = some y ∧ Keep w ns ts g n c va W) :
    W.cell? ⟨b, 0, none⟩ = some x ∧ W.cell? ⟨b, 1, none⟩ = some y ∧ Keep w ns ts g n c va W := h
theorem own_arg2 {B : Nat} {w : World} {v : Value} {l : List Nd} (h : OwnN B w v l) : ∃ a n c, v = .slice a n c ∧ NArg w a n l := by
  rcases h.cases with ⟨rfl, rfl⟩ | ⟨g, c, rfl, h1, h2, h3, h4, _⟩
  · exact ⟨_, _, _, rfl, rfl, .inl rfl⟩
  · exact ⟨_, _, _, rfl, rfl, .inr ⟨g, 0, rfl, h4, h2⟩⟩
theorem ownN_le {B B' : Nat} {w : World} {v : Value} {l : List Nd} (h : OwnN B' w v l) (hB : B ≤ B') : OwnN B w v l := own_le h hB
theorem own_pos {B : Nat} {w : World} {v : Value} {l : List Nd} {m : Nat} (h : OwnN B w v l) (hm : l.length = m) (h1 : 1 ≤ m) :
    ∃ g c, v = .slice (some ⟨g, 0, none⟩) m c ∧ m ≤ c ∧ OwnN B w (.slice (some ⟨g, 0, none⟩) m c) l := by
  rcases h.cases with ⟨rfl, rfl⟩ | ⟨g, c, rfl, _, _, h3, _⟩
  · simp at hm; omega
  · subst hm; exact ⟨g, c, rfl, h3, h⟩
theorem own_narg {B : Nat} {w : World} {g m c : Nat} {l : List Nd} (h : OwnN B w (.slice (some ⟨g, 0, none⟩) m c) l) : NArg w (some ⟨g, 0, none⟩) m l := by
  rcases h.cases with ⟨h1, _⟩ | ⟨g', c', h1, _, h2, h3, h4, _⟩
  · cases h1
  · injection h1 with h1 hm _
    injection h1 with h1
    injection h1 with h1 _ _
    subst h1; subst hm
    exact ⟨rfl, .inr ⟨g, 0, rfl, h4, h2⟩⟩
theorem own_sl {B : Nat} {w : World} {g m c : Nat} {l : List Nd} (h : OwnN B w (.slice (some ⟨g, 0, none⟩) m c) l) (hm : l.length = m) (j : Nat) (hj : j < m) : NdAt w g 0 (l.getD j nd0) j := by
  obtain ⟨_, h1 | ⟨g', off, h1, h2, _⟩⟩ := own_narg h
  · subst h1; simp at hm; omega
  · injection h1 with h1
    injection h1 with h1 h3 _
    subst h1; subst h3
    exact h2 j (by omega)
theorem num_b (e : Int) (w : World) (h0 : 0 ≤ e) (h1 : e ≤ 9223372036854775807) :
    Calls Tryd.prog 12 #[.int .i64 e] w fun r w' => r = .returned (.int .i64 e) ∧ Below w.heap.size w w' :=
  (num_any e w h0 h1).mono fun _ _ h => ⟨h.1, h.2 ▸ Below.refl _ _⟩
theorem same_all {B : Nat} {va : Value} {a : Option Addr} {n c : Nat} {ts : List Nd} (W : World) (h : OwnN B W va ts) (h' : Hid (NArg W a n ts)) (hl : n ≤ 512) :
    Calls Tryd.prog 13 #[va, .slice a n c] W fun e w' => e = .returned (.bool true) ∧ Below W.heap.size W w' := by
  obtain ⟨a2, n2, c2, rfl, h3⟩ := own_arg2 h
  have := sameNodes_any a2 a n2 n c2 c ts ts W (Lib.hid h3) h' (by have := h3.1; have := h'.out.1; omega)
  rwa [sameV_self ndE_self] at this

set_option maxRecDepth 100000 in
set_option maxHeartbeats 16000000 in
theorem walk {H : Type} {enc : TypeId × Value → H} (p0 : Option Addr) (n0 c0 : Nat) (p1 : Option Addr) (n1 c1 : Nat) (at_ : Int) (w : World)
    (f0 : ∃ fuel y, DataW.trod enc Tryd.prog w 0 (fun _ => true) true fuel 22 [.slice p0 n0 c0] = some y ∧ ∀ x ∈ DataW.weights Tryd.prog 22 y.1, x ≤ reachBytes)
    (f1 : ∃ fuel y, DataW.trod enc Tryd.prog w 0 (fun _ => true) true fuel 23 [.slice p1 n1 c1] = some y ∧ ∀ x ∈ DataW.weights Tryd.prog 23 y.1, x ≤ reachBytes)
    (b2 : -9223372036854775808 ≤ at_ ∧ at_ ≤ 9223372036854775807) (hg : Hid (errTy w)) :
    Calls Tryd.prog 4 #[.agg #[.slice p0 n0 c0, .slice p1 n1 c1], .int .i64 at_] w fun e w' => e = .returned (.bool true) ∧ Below w.heap.size w w' := by
  obtain ⟨_, _, t0, t0'⟩ := f0
  obtain ⟨_, hl0, os, hO, hOz⟩ := ops_open t0 t0'
  obtain ⟨_, _, t1, t1'⟩ := f1
  obtain ⟨hc1, hl1, ts, hN, hNz⟩ := nodes_open t1 t1'
  clear t0 t0' t1 t1'
  have hO' := Lib.hid hO; have hN' := Lib.hid hN
  have hOz' := Lib.hid hOz; have hNz' := Lib.hid hNz
  have hnl := hN.1
  clear hO hN hOz hNz
  have kM := Lib.hid fun (W : World) (hb : Below w.heap.size w W) => tMay_any p0 p1 n0 c0 n1 c1 os ts W (Lib.hid (hO'.out.below hb)) hOz' (by omega) (Lib.hid (hN'.out.below hb)) hNz' (by omega) (Lib.hid (errTy_below hg.out hb))
  have h0l := hgl hg.out
  cases hmv : mayV os ts
  · rw [hmv] at kM
    clear hmv hnl
    go_enter Tryd.func4, Tryd.ntmps4
    go_wp2_with fail
    refine (awake3_any _ (Lib.hid (errTy_below hg.out (show Below w.heap.size w _ from by (repeat' (first | with_reducible exact Below.refl _ _ | with_reducible assumption | with_reducible apply Below.setCell | with_reducible apply Below.alloc | with_reducible apply Below.drew | with_reducible apply below_drewN | with_reducible exact Nat.le_refl _ | (simp; done) | (simp; omega) | omega | exact Nat.le_refl _)))))).mono ?_
    rintro e w1 ⟨rfl, hb1⟩
    have q0 : w1.cell? ⟨w.heap.size, 0, none⟩ = some (.slice p0 n0 c0) := carry hb1 (by simp) (by simp)
    have q1 : w1.cell? ⟨w.heap.size, 1, none⟩ = some (.slice p1 n1 c1) := carry hb1 (by simp) (by simp)
    have hB1 := Lib.hid (belT (show Below w.heap.size w _ from by (repeat' (first | with_reducible exact Below.refl _ _ | with_reducible assumption | with_reducible apply Below.setCell | with_reducible apply Below.alloc | with_reducible apply Below.drew | with_reducible apply below_drewN | with_reducible exact Nat.le_refl _ | (simp; done) | (simp; omega) | omega | exact Nat.le_refl _))) hb1)
    clear hb1
    go_wp2_with fail
    refine (kM.out _ hB1.out).mono ?_
    rintro e w2 ⟨rfl, hb2⟩
    have hB2 := Lib.hid (belT hB1.out hb2)
    clear hb2
    go_wp2_with fail
    go_ret
    exact ⟨rfl, hB2.out⟩
  · have htv : treeV (okNm true) ts = true := by unfold mayV at hmv; simp only [Bool.and_eq_true] at hmv; exact hmv.2
    rw [hmv] at kM
    clear hmv
    have hn1 : 1 ≤ n1 ∧ n1 ≤ 512 := by
      unfold treeV at htv
      simp only [Bool.and_eq_true, decide_eq_true_eq] at htv
      omega
    obtain ⟨b, off, rfl, hsl, hbw0⟩ : ∃ b off, p1 = some ⟨b, off, none⟩ ∧ NdSl w b off ts ∧ b < w.heap.size := by
      have h1 := hN'.out.1
      rcases hN'.out.2 with h | h
      · rw [h] at h1; simp at h1; omega
      · exact h
    have hsl' := Lib.hid hsl
    clear hsl
    obtain ⟨ki, hk0, hk1, hke⟩ := umod_int at_ n1 (by omega) (by omega)
    obtain ⟨k, rfl⟩ := Int.eq_ofNat_of_zero_le hk0
    have hum : IntKind.u64.wrap (n1 : Int) = (n1 : Int) := by
      simp only [IntKind.wrap, IntKind.signed, IntKind.bits]
      simp
      omega
    have hkn : k < n1 := by omega
    obtain ⟨f, ns, hf, hp, hm, hgt, htn, hdn, hdr, _, _, hh⟩ := part_facts htv k (by omega)
    obtain ⟨f', ns', _, hp', _, _, _, _, _, _, hall, hh'⟩ := part_facts htv (n1 - 1) (by omega)
    rw [hall (by omega)] at hp'
    clear hall
    have hsn := part_sz hNz'.out k
    rw [hp] at hsn
    have hsn' := Lib.hid hsn
    have hcast : ((n1 - 1 : Nat) : Int) = (n1 : Int) - 1 := by omega
    have kP := Lib.hid fun (W : World) (hb : Below w.heap.size w W) => tPart_any (some ⟨b, off, none⟩) n1 c1 ts (k : Int) W (Lib.hid (hN'.out.below hb)) hNz' (by omega) hc1 (Lib.hid (errTy_below hg.out hb))
    have kA := Lib.hid fun (W : World) (hb : Below w.heap.size w W) => tPart_any (some ⟨b, off, none⟩) n1 c1 ts ((n1 - 1 : Nat) : Int) W (Lib.hid (hN'.out.below hb)) hNz' (by omega) hc1 (Lib.hid (errTy_below hg.out hb))
    have kD := Lib.hid fun (W : World) (hb : Below w.heap.size w W) => tDepth_any (some ⟨b, off, none⟩) n1 c1 ts (k : Int) W (Lib.hid (hN'.out.below hb)) hNz' (by omega) (Lib.hid (errTy_below hg.out hb))
    have kR := Lib.hid fun (W : World) (hb : Below w.heap.size w W) => tDepth_any (some ⟨b, off, none⟩) n1 c1 ts ((n1 - 1 : Nat) : Int) W (Lib.hid (hN'.out.below hb)) hNz' (by omega) (Lib.hid (errTy_below hg.out hb))
    unfold PartPost at kP kA
    rw [hp, depV_yes hh] at kP
    rw [hp', depV_yes hh'] at kA
    rw [depV_yes hh] at kD
    rw [depV_yes hh'] at kR
    have hhn : hasV ns ((ns.length - 1 : Nat) : Int) = true := by
      unfold hasV anyV
      rw [htn, decide_eq_true (by omega)]; rfl
    have hnl2 : 1 ≤ ns.length ∧ ns.length ≤ k + 1 := by omega
    have kN := Lib.hid fun (g c : Nat) (W : World) (h : Hid (NArg W (some ⟨g, 0, none⟩) ns.length ns)) (hg : Hid (errTy W)) => tDepth_any (some ⟨g, 0, none⟩) ns.length c ns ((ns.length - 1 : Nat) : Int) W h hsn' (by omega) hg
    rw [depV_yes hhn, Int.toNat_natCast, hdn] at kN
    have kMn := Lib.hid fun (g c : Nat) (W : World) (h : Hid (NArg W (some ⟨g, 0, none⟩) ns.length ns)) (hg : Hid (errTy W)) => tMay_any none (some ⟨g, 0, none⟩) 0 0 ns.length c [] ns W (Lib.hid (oarg0 W none)) (Lib.hid or_sz0) (by omega) h hsn' (by omega) hg
    rw [show mayV [] ns = true from by unfold mayV; rw [htn]; rfl] at kMn
    have hgt' := Lib.hid hgt
    have hk512 : Hid (ns.length ≤ 512) := Lib.hid (by omega)
    rw [Int.toNat_natCast] at kD kR
    rw [show ts.length - 1 = n1 - 1 from by omega] at hdr
    dsimp only at kP kA kD kR kN
    generalize dp (ksN ts) k = dk at kD kN hdr
    generalize dp (ksN ts) (n1 - 1) = rt at kR hdr
    obtain ⟨m, hmm⟩ : ∃ m, ns.length = m := ⟨_, rfl⟩
    rw [hmm] at kN kMn hnl2 hm hgt' hk512
    have hcn : ((m - 1 : Nat) : Int) = (m : Int) - 1 := by omega
    rw [hcast] at kA kR
    rw [hcn] at kN
    have hmm' := Lib.hid hmm
    have hke' := Lib.hid hke
    have hnl' := Lib.hid hnl
    have hm' := Lib.hid hm
    clear hnl hm
    clear hke hmm hcast hcn hhn hsn hp hp' hh hh' htn hdn htv hgt hk0 hk1
    go_enter Tryd.func4, Tryd.ntmps4
    go_wp2_with fail
    refine (awake3_any _ (Lib.hid (errTy_below hg.out (show Below w.heap.size w _ from by (repeat' (first | with_reducible exact Below.refl _ _ | with_reducible assumption | with_reducible apply Below.setCell | with_reducible apply Below.alloc | with_reducible apply Below.drew | with_reducible apply below_drewN | with_reducible exact Nat.le_refl _ | (simp; done) | (simp; omega) | omega | exact Nat.le_refl _)))))).mono ?_
    rintro e w1 ⟨rfl, hb1⟩
    have q0 : w1.cell? ⟨w.heap.size, 0, none⟩ = some (.slice p0 n0 c0) := carry hb1 (by simp) (by simp)
    have q1 : w1.cell? ⟨w.heap.size, 1, none⟩ = some (.slice (some ⟨b, off, none⟩) n1 c1) := carry hb1 (by simp) (by simp)
    have hB1 := Lib.hid (belT (show Below w.heap.size w _ from by (repeat' (first | with_reducible exact Below.refl _ _ | with_reducible assumption | with_reducible apply Below.setCell | with_reducible apply Below.alloc | with_reducible apply Below.drew | with_reducible apply below_drewN | with_reducible exact Nat.le_refl _ | (simp; done) | (simp; omega) | omega | exact Nat.le_refl _))) hb1)
    have z1 : w.heap.size < w1.heap.size := by have := hb1.size; (try simp at this); omega
    clear hb1
    go_wp2_with fail
    refine (kM.out _ hB1.out).mono ?_
    rintro e w2 ⟨rfl, hb2⟩
    have hB2 := Lib.hid (belT hB1.out hb2)
    have q0 := carry hb2 z1 q0
    have q1 := carry hb2 z1 q1
    have z2 : w.heap.size < w2.heap.size := by have := hb2.size; omega
    clear hb2
    go_wp2_with fail
    have hw2 : w.heap.size ≤ w2.heap.size := by omega
    rw [hke'.out]
    refine (kP.out _ hB2.out).mono ?_
    rintro e w3 ⟨v, rfl, hv, hb3⟩
    obtain ⟨gn, cn, rfl, hcn, hvn⟩ := own_pos hv hmm'.out (by omega)
    have hvn' := Lib.hid hvn
    have hB3 := Lib.hid (belT hB2.out hb3)
    have q0 := carry hb3 z2 q0
    have q1 := carry hb3 z2 q1
    have z3 : w.heap.size < w3.heap.size := by have := hb3.size; omega
    clear hb3 hv hvn
    go_wp2_with fail
    refine (kA.out _ hB3.out).mono ?_
    rintro e w4 ⟨va, rfl, hva, hb4⟩
    have hva' := Lib.hid (ownN_le hva (show w.heap.size ≤ w3.heap.size by omega))
    have hvn4 := Lib.hid (hvn'.out.below hb4)
    have hB4 := Lib.hid (belT hB3.out hb4)
    have q0 := carry hb4 z3 q0
    have q1 := carry hb4 z3 q1
    have z4 : w.heap.size < w4.heap.size := by have := hb4.size; omega
    clear hb4 hva
    go_wp2_with fail
    refine (kD.out _ hB4.out).mono ?_
    rintro e w5 ⟨rfl, hb5⟩
    have hB5 := Lib.hid (belT hB4.out hb5)
    have u0 := carry hb5 z4 q0
    have u1 := carry hb5 z4 q1
    have hK5 : Keep w ns ts gn m cn va w5 := ⟨hB5.out, ownN_le (hvn4.out.below hb5) hw2, hva'.out.below hb5, Lib.hid (errTy_below hg.out hB5.out)⟩
    have hK5' := Lib.hid hK5
    have z5 : w.heap.size < w5.heap.size := by have := hb5.size; omega
    clear hb5 hK5 q0 q1 hw2 hB1 hB2 hB3 hB4 z1 z2 z3 z4 hva' hvn' hvn4
    have kE := Lib.hid fun (W : World) (h : Keep w ns ts gn m cn va W) => same_all (c := c1) W h.2.2.1 (Lib.hid (hN'.out.below h.1)) hn1.2
    go_wp2_with ((go_at_call 12; refine (num_any _ _ (by omega) (by omega)).mono ?_; rintro e w' ⟨rfl, rfl⟩))
    refine (kE.out _ hK5'.out).mono ?_
    rintro e w6 ⟨rfl, hb6⟩
    have hK6 := Lib.hid (hK5'.out.go hb6)
    have q0 := carry hb6 z5 u0
    have q1 := carry hb6 z5 u1
    have z6 : w.heap.size < w6.heap.size := by have := hb6.size; omega
    clear hb6 u0 u1
    go_wp2_with ((go_at_call 12; refine (num_any _ _ (by omega) (by omega)).mono ?_; rintro e w' ⟨rfl, rfl⟩))
    refine (kN.out _ _ _ (Lib.hid (own_narg hK6.out.2.1)) hK6.out.2.2.2).mono ?_
    rintro e w7 ⟨rfl, hb7⟩
    have hK7 := Lib.hid (hK6.out.go hb7)
    have q0 := carry hb7 z6 q0
    have q1 := carry hb7 z6 q1
    have z7 : w.heap.size < w7.heap.size := by have := hb7.size; omega
    clear hb7
    go_wp2_with fail
    refine (kR.out _ hK7.out.1).mono ?_
    rintro e w8 ⟨rfl, hb8⟩
    have hK8 := Lib.hid (hK7.out.go hb8)
    have q0 := carry hb8 z7 q0
    have q1 := carry hb8 z7 q1
    have hQ8 := Lib.hid (show w8.cell? ⟨w.heap.size, 0, none⟩ = some (.slice p0 n0 c0) ∧ w8.cell? ⟨w.heap.size, 1, none⟩ = some (.slice (some ⟨b, off, none⟩) n1 c1) ∧ Keep w ns ts gn m cn va w8 from ⟨q0, q1, hK8.out⟩)
    clear hb8
    go_wp2_with fail
    go_loopw [16] (fun i wr => ∃ j : Nat, j ≤ m ∧ i = .int .i64 j ∧ Hid (wr.cell? ⟨w.heap.size, 0, none⟩ = some (.slice p0 n0 c0) ∧ wr.cell? ⟨w.heap.size, 1, none⟩ = some (.slice (some ⟨b, off, none⟩) n1 c1) ∧ Keep w ns ts gn m cn va wr)) (fun i _ => m - (intOf i).toNat)
    case atStart => exact ⟨0, by omega, rfl, hQ8⟩
    case round =>
      obtain ⟨j, hj, rfl, hI⟩ := hrel
      have r0 := hI.out.1
      have r1 := hI.out.2.1
      by_cases hlt : j < m
      · have hT := own_sl hI.out.2.2.2.1 hmm'.out j hlt
        have hU := (hsl'.out (f + j) (by have := hm'.out; have := hnl'.out; omega)).below hI.out.2.2.1 hbw0
        rw [hgt'.out j hlt] at hT
        generalize ts.getD (f + j) nd0 = u at hT hU
        have hlt' : (j : Int) < (m : Int) := by omega
        have hj0 : (0 : Int) ≤ (j : Int) := by omega
        obtain ⟨e0, e1, e2, e3, e4, e5, e6, e7, e8, e9⟩ := hT
        obtain ⟨d0, d1, d2, d3, d4, d5, d6, d7, d8, d9⟩ := hU
        have hm2 := hm'.out
        have hs1 : IntKind.i64.wrap ((k : Int) + 1) = ((k + 1 : Nat) : Int) := by simp [IntKind.wrap, IntKind.signed, IntKind.bits]; omega
        have hs2 : IntKind.i64.wrap (((k + 1 : Nat) : Int) - (m : Int)) = (f : Int) := by simp [IntKind.wrap, IntKind.signed, IntKind.bits]; omega
        have hs3 : IntKind.i64.wrap ((f : Int) + (j : Int)) = ((f + j : Nat) : Int) := by simp [IntKind.wrap, IntKind.signed, IntKind.bits]; omega
        have hx0 : (0 : Int) ≤ ((f + j : Nat) : Int) := by omega
        have hx1 : ((f + j : Nat) : Int) < (n1 : Int) := by omega
        rw [show f + j = k + 1 - m + j from by omega] at d0 d1 d2 d3 d4 d5 d6 d7 d8 d9
        clear hm2
        simp only [Nat.zero_add] at e0 e1 e2 e3 e4 e5 e6 e7 e8 e9
        have hndq := fun x0 x1 x2 x3 x4 x5 x6 x7 x8 x9 y0 y1 y2 y3 y4 y5 y6 y7 y8 y9 W => nd_in x0 x1 x2 x3 x4 x5 x6 x7 x8 x9 y0 y1 y2 y3 y4 y5 y6 y7 y8 y9 W
        have hqs : ndQ u.k u.a u.b u.c u.n u.nm u.x u.y u.z u.p u.k u.a u.b u.c u.n u.nm u.x u.y u.z u.p = true := ndE_self u
        replace e0 : wr.cell? ⟨gn, j * 10, none⟩ = some (.int .i64 u.k) := e0
        replace e4 : wr.cell? ⟨gn, j * 10 + 4, none⟩ = some (.int .i64 u.n) := e4
        replace e5 : wr.cell? ⟨gn, j * 10 + 5, none⟩ = some (.string u.nm) := e5
        replace e6 : wr.cell? ⟨gn, j * 10 + 6, none⟩ = some (.string u.x) := e6
        replace e7 : wr.cell? ⟨gn, j * 10 + 7, none⟩ = some (.string u.y) := e7
        replace e8 : wr.cell? ⟨gn, j * 10 + 8, none⟩ = some (.string u.z) := e8
        replace e9 : wr.cell? ⟨gn, j * 10 + 9, none⟩ = some (.int .i64 u.p) := e9
        generalize (mvN (f : Int) u).a = xa at e1
        generalize (mvN (f : Int) u).b = xb at e2
        generalize (mvN (f : Int) u).c = xc at e3
        generalize u.k = uk at *
        generalize u.a = ua at *
        generalize u.b = ub at *
        generalize u.c = uc at *
        generalize u.n = un at *
        generalize u.nm = us at *
        generalize u.x = ux at *
        generalize u.y = uy at *
        generalize u.z = uz at *
        generalize u.p = up at *
        have zr : w.heap.size < wr.heap.size := World.block_lt_of_cell? _ _ r1
        have zg : gn < wr.heap.size := World.block_lt_of_cell? _ _ e0
        have zb : b < wr.heap.size := World.block_lt_of_cell? _ _ d0
        clear q0 q1 kM kP kA kD kR kN kE r0
        go_wp2_with fail
        go_big_region
        all_goals go_wp2_with fail
        all_goals go_roundw
        case rel => exact ⟨j + 1, by omega, by go_num, Lib.hid (s_step hI.out (by (repeat' (first | with_reducible exact Below.refl _ _ | with_reducible assumption | with_reducible apply Below.setCell | with_reducible apply Below.alloc | with_reducible apply Below.drew | with_reducible apply below_drewN | with_reducible exact Nat.le_refl _ | (simp; done) | (simp; omega) | omega | exact Nat.le_refl _))))⟩
        case measure => simp [intOf]; omega
        case rel => exact ⟨j + 1, by omega, by go_num, Lib.hid (s_step hI.out (by (repeat' (first | with_reducible exact Below.refl _ _ | with_reducible assumption | with_reducible apply Below.setCell | with_reducible apply Below.alloc | with_reducible apply Below.drew | with_reducible apply below_drewN | with_reducible exact Nat.le_refl _ | (simp; done) | (simp; omega) | omega | exact Nat.le_refl _))))⟩
        case measure => simp [intOf]; omega
      · have hjm : j = m := by omega
        subst hjm
        have hB9 := Lib.hid hI.out.2.2.1
        go_wp2_with ((go_at_call 12; refine (num_any _ _ (by omega) (by omega)).mono ?_; rintro e w' ⟨rfl, rfl⟩))
        refine (kMn.out _ _ _ (Lib.hid (own_narg hI.out.2.2.2.1)) hI.out.2.2.2.2.2).mono ?_
        rintro e w9 ⟨rfl, hb9⟩
        have hB10 := Lib.hid (belT hB9.out hb9)
        clear hb9
        go_wp2_with fail
        go_ret
        exact ⟨rfl, hB10.out⟩
theorem own : ownKnob Tryd.prog.godebug = none := by kernel_rfl
theorem laidOut : laidOutB Tryd.prog = true := by kernel_rfl
set_option maxRecDepth 100000 in
theorem contract (H : Type) (enc : TypeId × Value → H) (W : World) (base : Nat) (args : Array Value) (ds gs : List (DataW H)) (before : List MemPlace)
    (hval0 : ∀ (j : Nat) t v, Tryd.f4.params[j]? = some t → args[j]? = some v → Value.okWide Tryd.prog W .any base t v)
    (hW : DataW.Whole enc Tryd.prog Tryd.f4.params.toList Rows.treePartsSpec.vars false W args.toList ds gs before)
    (hsz0 : (DataW.weightsEach Tryd.prog (Tryd.f4.params.toList ++ Rows.treePartsSpec.plain.varTypes Tryd.prog) (ds ++ gs)).all (· ≤ reachBytes) = true)
    (hL : laidMetH Tryd.prog Rows.treePartsRow.laid W)
    : Calls Tryd.prog 4 args W fun e W' => ∃ v, e = .returned v ∧ Rows.treePartsSpec.post enc Tryd.prog Tryd.f4 false true false false W args v W' := by
  have hval : ∀ (j : Nat) t v, Tryd.f4.params[j]? = some t → args[j]? = some v → Value.okWide Tryd.prog W .any base t v := hval0
  have hsz : (DataW.weightsEach Tryd.prog (Tryd.f4.params.toList ++ Rows.treePartsSpec.plain.varTypes Tryd.prog) (ds ++ gs)).all (· ≤ reachBytes) = true := hsz0
  have hW' := hW
  obtain ⟨p, q, hA0, hV, rfl, hfz, hnd⟩ := hW
  have hA : DataW.TrodAll enc Tryd.prog W 0 (fun _ => true) true Tryd.f4.params.toList args.toList ds p := hA0
  rw [Tryd.params4] at hA hval hsz
  obtain ⟨v0, vs0, d0, ds0, p0, q0, hargs, rfl, rfl, h0, r0⟩ := trodAll_cons hA
  obtain ⟨v1, vs1, d1, ds1, p1, q1, rfl, rfl, rfl, h1, r1⟩ := trodAll_cons r0
  obtain ⟨rfl, rfl, rfl⟩ := trodAll_nil r1
  obtain rfl : args = #[v0, v1] := by cases args; simp_all
  obtain ⟨rfl, rfl⟩ := trodVars_none hV
  have k0 := h0
  have lt0 : ∀ x ∈ p0, x.block < W.heap.size := by obtain ⟨m, hm⟩ := k0; exact DataW.trod_lt m _ _ _ hm
  obtain ⟨cs0_0, rfl, fit0_0⟩ := open_struct Tryd.underlying25 (f := 6) (by kernel_rfl : flat Tryd.prog 6 25 = some [.sl 22, .sl 23]) (hval 0 25 v0 rfl rfl) h0 (sized_of hsz (j := 0) (t := 25) rfl rfl)
  obtain ⟨_, cs0_1, rfl, ⟨a0_0, n0_0, c0_0, fu0_0, y0_0, rfl, f0_0, g0_0⟩, fit0_1⟩ := fit_i fit0_0
  obtain ⟨_, cs0_2, rfl, ⟨a0_1, n0_1, c0_1, fu0_1, y0_1, rfl, f0_1, g0_1⟩, fit0_2⟩ := fit_i fit0_1
  obtain rfl := fit_nil fit0_2
  have k1 := h1
  have lt1 : ∀ x ∈ p1, x.block < W.heap.size := by obtain ⟨m, hm⟩ := k1; exact DataW.trod_lt m _ _ _ hm
  obtain ⟨a1, rfl, rfl, rfl, m1⟩ := open_int Tryd.underlying3 (hval 1 3 v1 rfl rfl) h1
  clear hA0 hval0
  refine (walk a0_0 n0_0 c0_0 a0_1 n0_1 c0_1 a1 W ⟨_, _, f0_0, g0_0⟩ ⟨_, _, f0_1, g0_1⟩ (bd_i64 m1) (tabs hL)).mono fun e W' ⟨he, bel⟩ => ?_
  subst he
  exact ⟨_, rfl, _, _, _, [], _, [], hW', trodAll_mk1 (shut_bool Tryd.underlying4 _), (trodAll_cons_mk (Below.trod laidOut (by kernel_rfl) (of_decide_eq_true (by kernel_rfl)) k0 bel lt0) (trodAll_cons_mk (Below.trod laidOut (by kernel_rfl) (of_decide_eq_true (by kernel_rfl)) k1 bel lt1) trodAll_mk0)), rfl, bel.frame _, fun h => by cases h⟩
theorem laid_met (os : Os) : laidMetH Tryd.prog Rows.treePartsRow.laid ((handleWorld os).forCall (fun _ _ => 0) ⟨#[], #[.agg #[.slice none 0 0, .slice none 0 0], .int .i64 0], []⟩).memory := laidMetH_of_parts (laidMet_nil _ _) (by kernel_rfl)
theorem reads (os : Os) {H : Type} (enc : TypeId × Value → H) : ∃ places, DataW.whole enc Tryd.prog ((handleWorld os).forCall (fun _ _ => 0) ⟨#[], #[.agg #[.slice none 0 0, .slice none 0 0], .int .i64 0], []⟩).memory Tryd.f4.params.toList Rows.treePartsSpec.vars false #[(.agg #[.slice none 0 0, .slice none 0 0] : Value), (.int .i64 0 : Value)].toList 8 = some ([.agg [.nil, .nil], .lit (.int .i64 0)], [], places) := ⟨[], by kernel_rfl⟩
set_option maxRecDepth 100000 in
theorem lifted (os : Os) (started : os.Started) (H : Type) (enc : TypeId × Value → H) (F : Stop.Interp) :
    ReturnsInHanded {} Tryd.checked os 4 .any ((OpenSpec.ofChange Rows.treePartsSpec).preRow enc Tryd.prog Tryd.f4 Rows.treePartsRow.domain false Rows.treePartsRow.laid) (((OpenSpec.ofChange Rows.treePartsSpec).at F).post enc Tryd.prog Tryd.f4 false true false false) := by
  obtain ⟨places, hx⟩ := reads os enc
  refine returnsInHanded_of_row (C := Tryd.checked) (s := (OpenSpec.ofChange Rows.treePartsSpec)) own started (by kernel_rfl) Tryd.func4
    (witness_row_at (enc := enc) (C := Tryd.checked) false (handleWorld os) #[.agg #[.slice none 0 0, .slice none 0 0], .int .i64 0] rfl (by kernel_rfl) (by kernel_rfl) (by kernel_rfl)
      (OpenSpec.preRow_of_cond 8 hx (by kernel_rfl) (fun k hk => by cases hk) (by kernel_rfl) (laid_met os))) ?_
  intro W base args ds gs before hval hW _ hcnd hsz hL _ _
  exact contract H enc W base args ds gs before hval hW hsz  hL
theorem said : Rows.TreePartsSaid :=
  OpenClaim.holds_of_cond 4 Tryd.f4 rfl rfl rfl rfl rfl rfl rfl ⟨rfl, rfl, rfl, rfl, rfl⟩ rfl rfl rfl rfl rfl (by kernel_rfl) Tryd.func4 (by kernel_rfl)
    (of_decide_eq_true (by kernel_rfl)) (by unfold Func.isWrapper; first | (rw [if_pos (by decide +kernel)]; kernel_rfl) | (rw [if_neg (by decide +kernel)]; exact ⟨rfl, rfl⟩))
    (fun os started H enc _ F => by rw [OpenClaim.pre_eq_preRow]; exact lifted os started H enc F)
theorem plain (f : FuncId) (fn : Func) (hf : Tryd.pinned.checked.prog.funcNamed "trammel/trammellaw3.TreeParts" = some f) (hfn : Tryd.pinned.checked.prog.funcs[f]? = some fn) :
    true = Tryd.pinned.checked.prog.looks [] ∧ ∀ (j : Nat) t, fn.params[j]? = some t → Tryd.pinned.checked.prog.wantsStandIn t = false := by
  obtain rfl : f = 4 := Option.some.inj ((show Tryd.prog.funcNamed "trammel/trammellaw3.TreeParts" = some 4 by kernel_rfl).symm.trans hf) |>.symm
  obtain rfl : fn = Tryd.f4 := (Option.some.inj (Tryd.func4.symm.trans hfn)).symm
  refine ⟨by kernel_rfl, fun j t ht => ?_⟩
  rw [Tryd.params4] at ht
  have hm := Array.mem_of_getElem? ht
  have hm2 : t ∈ ([25, 3] : List Nat) := by simpa using hm
  simp only [List.mem_cons, List.not_mem_nil, or_false] at hm2
  rcases hm2 with rfl | rfl
  · exact (show Tryd.prog.wantsStandIn 25 = false by kernel_rfl)
  · exact (show Tryd.prog.wantsStandIn 3 = false by kernel_rfl)
theorem proved : Rows.TreePartsCardSaid :=
  Claim7.holds_tied_plain_at .later [] _ _ _ _ said (fun _ h => by cases h) (by kernel_rfl) (fun _ h => by cases h) treeParts_row_tie rfl ⟨rfl, rfl⟩ (by kernel_rfl) rfl plain (by kernel_rfl)
end Go.Proofs.YtdkpggnnhdoklaaDoor.treeParts
