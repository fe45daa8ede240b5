/- The reference's texts of types, in memory. -/
import Derived.Test.YtfkdcconmecaoaaDoorVrC
import Derived.Test.YtfkdcconmecaoaaDoorRwG
import Derived.Test.YtfkdcconmecaoaaDoorTxA
import Derived.Test.YtfkdcconmecaoaaDoorTyS
import Derived.Test.YtfkdcconmecaoaaDoorMmD
import Derived.Test.YtfkdcconmecaoaaDoorRcA
import Derived.Test.YtfkdcconmecaoaaDoorSbH
import Derived.Laws.AppendOwn
import Derived.BigRegion
import Derived.Deep.RegionLaw
namespace Go.Proofs.YtfkdcconmecaoaaDoor
open Go.RowKit
set_option linter.unusedVariables false
set_option linter.unusedSimpArgs false

theorem posI_le {l : List Int} {v : Int} : posI l v ≤ l.length := by
  cases h : hasI l v
  · rw [(posI_new h).1]; exact Nat.le_refl _
  · have e : addI l v = l := by unfold addI; rw [h]; rfl
    unfold posI; rw [e]; exact List.findIdx_le_length
def jnB (l : List ByteArray) : ByteArray := ⟨(Lib.join (l.map (·.data.toList)) [44]).toArray⟩
theorem jnB_nil : jnB [] = ⟨#[]⟩ := by unfold jnB; rw [List.map_nil, Lib.join_nil]
theorem jnB_one (x : ByteArray) : jnB [x] = x := by
  apply ba_ext; unfold jnB; rw [List.map_cons, List.map_nil, Lib.join_cons]; simp [Lib.joinTail]
theorem jnB_snoc {l : List ByteArray} (h : l ≠ []) (x : ByteArray) : jnB (l ++ [x]) = jnB l ++ ⟨#[44]⟩ ++ x := by
  cases l with
  | nil => exact absurd rfl h
  | cons y r =>
    apply ba_ext
    unfold jnB
    rw [List.cons_append, List.map_cons, Lib.join_cons, List.map_cons, Lib.join_cons, List.map_append]
    simp [Lib.joinTail]
theorem jnB_len (n : Nat → Nat) (hn : ∀ i, n i ≤ 32) (k j : Nat) (hk : k ≤ 4) (hj : j ≤ 32) : (jnB (opsL n k ++ List.replicate j (opB k))).size ≤ 480 := by
  have h1 : (jnB (opsL n k ++ List.replicate j (opB k))).size = (Lib.join ((opsL n k ++ List.replicate j (opB k)).map (·.data.toList)) [44]).length := rfl
  have h2 := join_len ((opsL n k ++ List.replicate j (opB k)).map (·.data.toList)) (by
    intro x hx
    obtain ⟨y, hy, rfl⟩ := List.mem_map.1 hx
    rcases List.mem_append.1 hy with h | h
    · have := opsL_size n k y h; rw [← this]; simp
    · rw [List.eq_of_mem_replicate h]; rfl)
  have h3 := opsL_len n 32 hn k
  rw [h1]
  rw [List.length_map, List.length_append, List.length_replicate] at h2
  omega
theorem jnB_pos {l : List ByteArray} (h : l ≠ []) (hs : ∀ x ∈ l, x.size = 2) : (jnB l).toList.isEmpty = false ∧ ((jnB l).toList == []) = false := by
  cases l with
  | nil => exact absurd rfl h
  | cons y r =>
    have hy := hs y (List.mem_cons_self ..)
    have : ∃ c t, (jnB (y :: r)).toList = c :: t := by
      rw [Lib.toList_data]
      unfold jnB
      rw [List.map_cons, Lib.join_cons]
      cases hd : y.data.toList with
      | nil =>
        have hlen : y.data.toList.length = 2 := by rw [← hy]; simp
        rw [hd] at hlen; simp at hlen
      | cons c t => exact ⟨c, _, rfl⟩
    obtain ⟨c, t, e⟩ := this
    rw [e]; exact ⟨rfl, rfl⟩
theorem opsAll (n : Nat → Nat) (k j : Nat) : ∀ x ∈ opsL n k ++ List.replicate j (opB k), x.size = 2 := by
  intro x hx
  rcases List.mem_append.1 hx with h | h
  · exact opsL_size n k x h
  · rw [List.eq_of_mem_replicate h]; rfl
theorem cnt_le {a b c d t : Int} (h : mayR a b c d t = true) (i : Nat) : cnt4 a b c d i ≤ 32 := by
  have := of_decide_eq_true h
  unfold cnt4; (repeat' split) <;> omega
theorem digit_any (k : Nat) (hk : k < 10) (W : World) : Calls Tryd.prog 69 #[.int .i64 (k : Int)] W fun e w' => e = .returned (.string ⟨#[UInt8.ofNat (48 + k)]⟩) ∧ Below W.heap.size W w' :=
  (dec_any (k : Int) W (by omega) (by omega)).mono fun e w' h => by
    unfold DecPost at h
    rw [show Lib.itoa (k : Int) = [UInt8.ofNat (48 + k)] from by unfold Lib.itoa; rw [if_neg (by omega)]; exact ddi k hk] at h
    exact h
set_option maxRecDepth 100000 in
set_option maxHeartbeats 4000000 in
theorem nrowText_any (g B : Nat) (a b c d t : Int) (w : World) (v1 v2 : Value) (l1 l2 : List Int) (hm : mayR a b c d t = true) (h : Hid (TwoI B g 0 g 1 w v1 v2 l1 l2)) (hl1 : l1.length ≤ 10000) (hl2 : l2.length ≤ 10000) :
    Calls Tryd.prog 71 #[.pointer (some ⟨g, 0, none⟩), .agg #[.int .i64 a, .int .i64 b, .int .i64 c, .int .i64 d, .int .i64 t]] w fun e w' => e = .returned (.string (rowK a b c d t (Lib.itoa (posI l2 t : Nat)))) ∧ ∃ v1' v2', TwoI B g 0 g 1 w' v1' v2' l1 (addT l2 t) ∧ GoV g g w w' v1 v2 v1' v2' := by
  have hcl := Lib.hid (cnt_le hm)
  have hmm := of_decide_eq_true hm
  obtain ⟨W1, hW1⟩ : ∃ W, w.alloc (.cells #[.int .i64 a, .int .i64 b, .int .i64 c, .int .i64 d, .int .i64 t] 36) = W := ⟨_, rfl⟩
  have hrow : Hid (∀ k : Nat, k < 4 → W1.cell? ⟨w.heap.size, k, none⟩ = some (.int .i64 (cnt4 a b c d k : Int))) := Lib.hid (by
    intro k hk
    rw [← hW1]
    have hk4 : k = 0 ∨ k = 1 ∨ k = 2 ∨ k = 3 := by omega
    rcases hk4 with rfl | rfl | rfl | rfl
    · rw [show ((cnt4 a b c d 0 : Nat) : Int) = a by unfold cnt4; simp; omega]; simp
    · rw [show ((cnt4 a b c d 1 : Nat) : Int) = b by unfold cnt4; simp; omega]; simp
    · rw [show ((cnt4 a b c d 2 : Nat) : Int) = c by unfold cnt4; simp; omega]; simp
    · rw [show ((cnt4 a b c d 3 : Nat) : Int) = d by unfold cnt4; simp; omega]; simp)
  have hrt : Hid (W1.cell? ⟨w.heap.size, 4, none⟩ = some (.int .i64 t)) := Lib.hid (by rw [← hW1]; simp)
  have hW1b : Hid (Below w.heap.size w W1) := Lib.hid (by rw [← hW1]; (repeat' (first | with_reducible exact Below.refl _ _ | with_reducible assumption | with_reducible apply Below.setCell | with_reducible apply Below.alloc | with_reducible apply Below.drew | with_reducible apply below_drewN | with_reducible exact Nat.le_refl _ | (simp; done) | (simp; omega) | omega | exact Nat.le_refl _)))
  have hW1s : w.heap.size < W1.heap.size := by rw [← hW1]; simp
  have ht0 : -1 ≤ t := by omega
  have hpl := posI_le (l := l2) (v := t)
  have hnr := Lib.hid fun (W : World) (hW : TwoI B g 0 g 1 W v1 v2 l1 l2) => nrow_any g B t W v1 v2 l1 l2 (Lib.hid hW) (by omega) (by omega)
  have hdc := Lib.hid fun (W : World) => (show Calls Tryd.prog 69 #[.int .i64 (posI l2 t : Nat)] W fun e w' => e = .returned (.string ⟨(Lib.itoa (posI l2 t : Nat)).toArray⟩) ∧ Below W.heap.size W w' from (dec_any (posI l2 t : Nat) W (by omega) (by omega)).mono fun e w' h => by unfold DecPost at h; exact h)
  have hit := itoa_len (posI l2 t : Nat) (by omega) (by omega)
  have hadd : Hid (addT l2 t = if 0 ≤ t then addI l2 t else l2) := Lib.hid (by unfold addT; by_cases ht : t < 0; rw [if_pos ht, if_neg (by omega)]; rw [if_neg ht, if_pos (by omega)])
  have hrB : Hid (rowK a b c d t (Lib.itoa (posI l2 t : Nat)) = ⟨#[60]⟩ ++ jnB (opsL (cnt4 a b c d) 4) ++ (if 0 ≤ t then ⟨#[124, 101]⟩ ++ ⟨(Lib.itoa (posI l2 t : Nat)).toArray⟩ else ⟨#[]⟩) ++ ⟨#[62]⟩) := Lib.hid rfl
  generalize rowK a b c d t (Lib.itoa (posI l2 t : Nat)) = RB at hrB
  generalize Lib.itoa (posI l2 t : Nat) = IT at hrB hdc hit
  generalize posI l2 t = PS at hnr hdc hpl
  generalize addI l2 t = AL at hnr hadd
  generalize addT l2 t = AT at hadd
  clear hm hmm
  go_enter Tryd.func71, Tryd.ntmps71
  go_wp2_with fail
  (try rw [hW1])
  clear hW1
  generalize cnt4 a b c d = n at hcl hrow hrB
  go_loopw [5, 6] (fun s i wr => ∃ k : Nat, k ≤ 4 ∧ i = .int .i64 k ∧ s = .string (jnB (opsL n k)) ∧ Below W1.heap.size W1 wr) (fun _ i _ => 4 - (intOf i).toNat)
  case atStart => exact ⟨0, by omega, rfl, by rw [show opsL n 0 = [] from rfl, jnB_nil], Below.refl _ _⟩
  case round =>
    obtain ⟨k, hk, rfl, rfl, hbw⟩ := hrel
    have hws := hbw.size
    by_cases hk4 : k < 4
    · have hcell := Lib.hid (hrow.out k hk4)
      have hnk := hcl.out k
      have hjl := Lib.hid fun (j : Nat) (hj : j ≤ 32) => jnB_len n hcl.out k j hk hj
      have hD := Lib.hid fun (W : World) => digit_any k (by omega) W
      have hop : Hid (∀ x : ByteArray, x ++ ⟨#[111]⟩ ++ ⟨#[UInt8.ofNat (48 + k)]⟩ = x ++ opB k) := Lib.hid fun x => by apply ba_ext; simp [opB]
      have hnx : Hid (opsL n (k + 1) = opsL n k ++ List.replicate (n k) (opB k)) := Lib.hid rfl
      have hsn : Hid (∀ j, opsL n k ++ List.replicate (j + 1) (opB k) = (opsL n k ++ List.replicate j (opB k)) ++ [opB k]) := Lib.hid fun j => (rep_snoc _ _ _).symm
      have hall := Lib.hid (opsAll n k)
      have hjz : Hid (opsL n k = opsL n k ++ List.replicate 0 (opB k)) := Lib.hid (by simp)
      obtain ⟨m, hm⟩ : ∃ m, n k = m := ⟨_, rfl⟩
      rw [hm] at hcell hnk hnx
      obtain ⟨dg, hdg⟩ : ∃ x, (⟨#[UInt8.ofNat (48 + k)]⟩ : ByteArray) = x := ⟨_, rfl⟩
      have hds : dg.size = 1 := by rw [← hdg]; rfl
      rw [hdg] at hD hop
      have hkk : (k : Int) < 4 := by omega
      have hk0 : (0 : Int) ≤ (k : Int) := by omega
      clear hm hdg
      go_wp2_with fail
      go_loopw [5, 7] (fun s j wr2 => ∃ jn : Nat, jn ≤ m ∧ j = .int .i64 jn ∧ s = .string (jnB (opsL n k ++ List.replicate jn (opB k))) ∧ Below W1.heap.size W1 wr2) (fun _ j _ => m - (intOf j).toNat)
      case atStart => exact ⟨0, by omega, rfl, by rw [← hjz.out], hbw⟩
      case round =>
        obtain ⟨jn, hjm, rfl, rfl, hb2⟩ := hrel
        have hcc := carry hb2 hW1s hcell.out
        by_cases hlt : jn < m
        · have hsz := hjl.out jn (by omega)
          have hal := hall.out jn
          have hs1 := hsn.out jn
          generalize opsL n k ++ List.replicate jn (opB k) = L at hsz hal hs1 ⊢
          have hs1' := Lib.hid hs1
          by_cases hLn : L = []
          · subst hLn
            rw [jnB_nil]
            have t1 : ((⟨#[]⟩ : ByteArray).toList == []) = true := by rw [Lib.toList_data]; rfl
            have t2 : (⟨#[]⟩ : ByteArray).toList.isEmpty = true := by rw [Lib.toList_data]; rfl
            clear hs1 hsz hal
            go_wp2_with fail
            refine (hD.out _).mono ?_
            rintro e w9 ⟨rfl, hb9⟩
            have hb3 : Below W1.heap.size W1 w9 := hb2.trans (hb9.mono hb2.size)
            clear hb9
            go_wp2_with fail
            go_roundw
            case rel => exact ⟨jn + 1, by omega, by go_num, by rw [hs1'.out, List.nil_append, jnB_one]; exact congrArg Value.string ((hop.out ⟨#[]⟩).trans (by apply ba_ext; simp)), hb3⟩
            case measure => simp [intOf]; omega
          · obtain ⟨t1, t2⟩ := jnB_pos hLn hal
            have hsn2 := jnB_snoc hLn (opB k)
            rw [← hs1'.out] at hsn2
            have hsn' := Lib.hid hsn2
            generalize jnB L = x at t1 t2 hsz hsn' ⊢
            clear hs1 hal hsn2
            go_wp2_with fail
            refine (hD.out _).mono ?_
            rintro e w9 ⟨rfl, hb9⟩
            have hb3 : Below W1.heap.size W1 w9 := hb2.trans (hb9.mono hb2.size)
            clear hb9
            go_wp2_with fail
            go_roundw
            case rel => exact ⟨jn + 1, by omega, by go_num, by rw [hsn'.out]; congr 1; exact hop.out _, hb3⟩
            case measure => simp [intOf]; omega
        · obtain rfl : jn = m := by omega
          rw [← hnx.out]
          go_wp2_with fail
          go_roundw
          case rel => exact ⟨k + 1, by omega, by go_num, rfl, hb2⟩
          case measure => simp [intOf]; omega
    · obtain rfl : k = 4 := by omega
      have hsz := jnB_len n hcl.out 4 0 (by omega) (by omega)
      rw [show opsL n 4 ++ List.replicate 0 (opB 4) = opsL n 4 from by simp] at hsz
      generalize jnB (opsL n 4) = x at hsz hrB ⊢
      have htc := carry hbw hW1s hrt.out
      have hTw := Lib.hid (h.out.below ((hW1b.out).trans (hbw.mono (by omega))))
      have hGw := Lib.hid (GoV.of_below (b1 := g) (b2 := g) (v1 := v1) (v2 := v2) ((hW1b.out).trans (hbw.mono (by omega))))
      by_cases ht : 0 ≤ t
      · have hRB : Hid (RB = ⟨#[60]⟩ ++ (x ++ ⟨#[124, 101]⟩ ++ ⟨IT.toArray⟩) ++ ⟨#[62]⟩) := Lib.hid (by rw [hrB.out, if_pos ht]; apply ba_ext; simp)
        have hAT : Hid (AT = AL) := Lib.hid (by rw [hadd.out, if_pos ht])
        obtain ⟨dg, hdg⟩ : ∃ x, (⟨IT.toArray⟩ : ByteArray) = x := ⟨_, rfl⟩
        have hds : dg.size ≤ 21 := by rw [← hdg]; show IT.toArray.size ≤ 21; simpa using hit
        rw [hdg] at hdc hRB
        clear hdg hrB hadd hit
        go_wp2_with fail
        refine (hnr.out _ hTw.out).mono ?_
        rintro e w8 ⟨rfl, y1, y2, hp8, hg8⟩
        have hT8 := Lib.hid hp8
        have hG8 := Lib.hid (hGw.out.trans hg8)
        clear hp8 hg8
        go_wp2_with fail
        refine (hdc.out _).mono ?_
        rintro e w9 ⟨rfl, hb9⟩
        have hT9 := Lib.hid (hT8.out.below hb9)
        have hG9 := Lib.hid (hG8.out.trans (GoV.of_below hb9))
        clear hb9
        go_wp2_with fail
        go_ret
        exact ⟨ret_s (by rw [hRB.out]), y1, y2, by rw [hAT.out]; exact hT9.out, hG9.out⟩
      · have hRB : Hid (RB = ⟨#[60]⟩ ++ x ++ ⟨#[62]⟩) := Lib.hid (by rw [hrB.out, if_neg ht]; apply ba_ext; simp)
        have hAT : Hid (AT = l2) := Lib.hid (by rw [hadd.out, if_neg ht])
        clear hrB hadd hit
        go_wp2_with fail
        go_ret
        exact ⟨ret_s (by rw [hRB.out]), v1, v2, by rw [hAT.out]; exact hTw.out, hGw.out⟩
end Go.Proofs.YtfkdcconmecaoaaDoor

namespace Go.Proofs.YtfkdcconmecaoaaDoor
open Go.RowKit Go.Maps
set_option linter.unusedVariables false
set_option linter.unusedSimpArgs false

def NtPost (B g : Nat) (w : World) (v1 v2 : Value) (T : TT) (l1 l2 : List Int) (e : Ending) (w' : World) : Prop :=
  e = .returned (.string ⟨(tx T l1 l2).toArray⟩) ∧ ∃ v1' v2', TwoI B g 0 g 1 w' v1' v2' (tvs T l1) (rvs T l2) ∧ GoV g g w w' v1 v2 v1' v2'
theorem ntx_eq (a b : TT) (r : Rw) (l1 l2 : List Int) : (⟨(tx (.fn a r b) l1 l2).toArray⟩ : ByteArray) = ⟨#[40]⟩ ++ ⟨(tx a l1 l2).toArray⟩ ++ ⟨#[32, 45]⟩ ++ rowK r.a r.b r.c r.d r.t (Lib.itoa (posI (rvs a l2) r.t : Nat)) ++ ⟨#[32]⟩ ++ ⟨(tx b (tvs a l1) (addT (rvs a l2) r.t)).toArray⟩ ++ ⟨#[41]⟩ := by
  rw [show tx (.fn a r b) l1 l2 = [40] ++ tx a l1 l2 ++ ([32, 45] ++ rwT r (Lib.itoa (posI (rvs a l2) r.t : Nat)) ++ [32]) ++ tx b (tvs a l1) (addT (rvs a l2) r.t) ++ [41] from rfl]
  apply ba_ext
  unfold rwT
  simp
theorem sz_tx (l : List UInt8) : (⟨l.toArray⟩ : ByteArray).size = l.length := by show l.toArray.size = _; simp
set_option maxRecDepth 100000 in
set_option maxHeartbeats 8000000 in
theorem ntext_any (g B : Nat) (bt off c : Nat) (ts : List Ty) (hbt : bt < B) (hb1 : bt ≠ g) (hl : ts.length ≤ 256) : ∀ (T : TT) (i : Nat) (w : World) (v1 v2 : Value) (l1 l2 : List Int), Hid (SubAt ts T i) → T.ok = true → Hid (TySl w bt off ts) → Hid (TwoI B g 0 g 1 w v1 v2 l1 l2) → l1.length + T.sz ≤ 10000 → l2.length + T.sz ≤ 10000 → T.sz ≤ 256 →
    Calls Tryd.prog 39 #[.pointer (some ⟨g, 0, none⟩), .slice (some ⟨bt, off, none⟩) ts.length c, .int .i64 i] w (NtPost B g w v1 v2 T l1 l2) := by
  intro T
  induction T with
  | base k =>
    intro i w v1 v2 l1 l2 hS hT hN h hz1 hz2 hz3
    obtain ⟨hi, hn⟩ := hS.out
    have hk : k = 0 ∨ k = 1 := by simpa [TT.ok] using hT
    have hA := hN.out i hi
    rw [hn] at hA
    obtain ⟨e0, e1, e2, e3, e4, e5, e6, e7, e8⟩ := hA
    simp only [bsT] at e0 e1 e2 e3 e4 e5 e6 e7 e8
    have hbw : bt < w.heap.size := by have := h.out.hB; omega
    have hi' : (i : Int) < (ts.length : Int) := by omega
    have hi0 : (0 : Int) ≤ (i : Int) := by omega
    clear hn hT hS
    rcases hk with rfl | rfl
    all_goals
      go_enter Tryd.func39, Tryd.ntmps39
      go_wp2_with fail
      go_ret
      exact ⟨rfl, v1, v2, h.out.below (below_alc w _), GoV.of_below (below_alc w _)⟩
  | var v =>
    intro i w v1 v2 l1 l2 hS hT hN h hz1 hz2 hz3
    obtain ⟨hi, hn⟩ := hS.out
    have hA := hN.out i hi
    rw [hn] at hA
    obtain ⟨e0, e1, e2, e3, e4, e5, e6, e7, e8⟩ := hA
    simp only [vrT] at e0 e1 e2 e3 e4 e5 e6 e7 e8
    have hbw : bt < w.heap.size := by have := h.out.hB; omega
    have hpl := posI_le (l := l1) (v := v)
    have kS := Lib.hid fun (W : World) (hb : Below w.heap.size w W) => nkind_any g B v W v1 v2 l1 l2 (Lib.hid (h.out.below hb)) (by omega) (by omega)
    have hdc := Lib.hid fun (W : World) => (show Calls Tryd.prog 69 #[.int .i64 (posI l1 v : Nat)] W fun e w' => e = .returned (.string ⟨(Lib.itoa (posI l1 v : Nat)).toArray⟩) ∧ Below W.heap.size W w' from (dec_any (posI l1 v : Nat) W (by omega) (by omega)).mono fun e w' h => by unfold DecPost at h; exact h)
    have hit := itoa_len (posI l1 v : Nat) (by omega) (by omega)
    have s3 : rvs (.var v) l2 = l2 := rfl
    have s1 : tvs (.var v) l1 = addI l1 v := rfl
    have htx : Hid ((⟨(tx (.var v) l1 l2).toArray⟩ : ByteArray) = ⟨#[116]⟩ ++ ⟨(Lib.itoa (posI l1 v : Nat)).toArray⟩) := Lib.hid (by rw [show tx (.var v) l1 l2 = 116 :: Lib.itoa (posI l1 v : Nat) from rfl]; apply ba_ext; simp)
    unfold NtPost
    rw [s3, s1]
    generalize (⟨(tx (.var v) l1 l2).toArray⟩ : ByteArray) = TX at htx ⊢
    rw [← sz_tx] at hit
    generalize (⟨(Lib.itoa (posI l1 v : Nat)).toArray⟩ : ByteArray) = IT at htx hdc hit
    generalize posI l1 v = P at kS hdc hpl
    generalize addI l1 v = L1 at kS ⊢
    have hi' : (i : Int) < (ts.length : Int) := by omega
    have hi0 : (0 : Int) ≤ (i : Int) := by omega
    clear hn s3 s1 hT hS
    go_enter Tryd.func39, Tryd.ntmps39
    go_wp2_with fail
    refine (kS.out _ (below_alc w _)).mono ?_
    rintro e w1 ⟨rfl, y1, y2, hp, hg⟩
    have hT1 := Lib.hid hp
    have hG1 := Lib.hid ((GoV.of_below (below_alc w _)).trans hg)
    clear hp hg
    go_wp2_with fail
    refine (hdc.out _).mono ?_
    rintro e w2 ⟨rfl, hb⟩
    have hT2 := Lib.hid (hT1.out.below hb)
    have hG2 := Lib.hid (hG1.out.trans (GoV.of_below hb))
    clear hb
    go_wp2_with fail
    go_ret
    exact ⟨ret_s (by rw [htx.out]), y1, y2, hT2.out, hG2.out⟩
  | fn a r b iha ihb =>
    intro i w v1 v2 l1 l2 hS hT hN h hz1 hz2 hz3
    obtain ⟨hi, j, k, hn, hji, hki, hSa, hSb⟩ := hS.out
    unfold TT.ok at hT
    simp only [Bool.and_eq_true] at hT
    have hsz : (TT.fn a r b).sz = a.sz + b.sz + 1 := rfl
    rw [hsz] at hz1 hz2 hz3
    have hA := hN.out i hi
    rw [hn] at hA
    obtain ⟨e0, e1, e2, e3, e4, e5, e6, e7, e8⟩ := hA
    simp only [fnT] at e0 e1 e2 e3 e4 e5 e6 e7 e8
    have hbw : bt < w.heap.size := by have := h.out.hB; omega
    have t1 := tvs_len a l1
    have t2 := rvs_len a l2
    have t3 := addT_len (rvs a l2) r.t
    have kA := Lib.hid fun (W : World) (hb : Below w.heap.size w W) => iha j W v1 v2 l1 l2 (Lib.hid hSa) hT.1.1 (Lib.hid (hN.out.below hb hbw)) (Lib.hid (h.out.below hb)) (by omega) (by omega) (by omega)
    have kS := Lib.hid fun (W : World) (u1 u2 : Value) (hW : TwoI B g 0 g 1 W u1 u2 (tvs a l1) (rvs a l2)) => nrowText_any g B r.a r.b r.c r.d r.t W u1 u2 (tvs a l1) (rvs a l2) hT.1.2 (Lib.hid hW) (by omega) (by omega)
    have kB := Lib.hid fun (W : World) (u1 u2 : Value) (hW : TwoI B g 0 g 1 W u1 u2 (tvs a l1) (addT (rvs a l2) r.t)) (hNW : TySl W bt off ts) => ihb k W u1 u2 (tvs a l1) (addT (rvs a l2) r.t) (Lib.hid hSb) hT.2 (Lib.hid hNW) (Lib.hid hW) (by omega) (by omega) (by omega)
    have s3 : tvs b (tvs a l1) = tvs (.fn a r b) l1 := rfl
    have s4 : rvs b (addT (rvs a l2) r.t) = rvs (.fn a r b) l2 := rfl
    unfold NtPost at kA kB
    rw [s3, s4] at kB
    have htx := Lib.hid (ntx_eq a b r l1 l2)
    have q1 := tx_len a l1 l2 hT.1.1 (by omega) (by omega)
    have q2 := tx_len b (tvs a l1) (addT (rvs a l2) r.t) hT.2 (by omega) (by omega)
    have q3 := rwT_len hT.1.2 (Lib.itoa (posI (rvs a l2) r.t : Nat)) (by have := itoa_len (posI (rvs a l2) r.t : Nat) (by omega) (by have := posI_le (l := rvs a l2) (v := r.t); omega); omega)
    have q3 : (rowK r.a r.b r.c r.d r.t (Lib.itoa (posI (rvs a l2) r.t : Nat))).size ≤ 500 := by
      have e : (rowK r.a r.b r.c r.d r.t (Lib.itoa (posI (rvs a l2) r.t : Nat))).size = (rwT r (Lib.itoa (posI (rvs a l2) r.t : Nat))).length := by unfold rwT; simp
      rw [e]; exact q3
    rw [← sz_tx] at q1 q2
    unfold NtPost
    generalize (⟨(tx (.fn a r b) l1 l2).toArray⟩ : ByteArray) = TX at htx ⊢
    generalize (⟨(tx a l1 l2).toArray⟩ : ByteArray) = SA at htx kA q1
    generalize (⟨(tx b (tvs a l1) (addT (rvs a l2) r.t)).toArray⟩ : ByteArray) = SB at htx kB q2
    generalize rowK r.a r.b r.c r.d r.t (Lib.itoa (posI (rvs a l2) r.t : Nat)) = SR at htx kS q3
    generalize tvs (.fn a r b) l1 = R1 at kB ⊢
    generalize rvs (.fn a r b) l2 = R2 at kB ⊢
    generalize addT (rvs a l2) r.t = M2 at kB kS
    generalize tvs a l1 = M1 at kA kS kB
    generalize rvs a l2 = L2 at kA kS
    have hi' : (i : Int) < (ts.length : Int) := by omega
    have hi0 : (0 : Int) ≤ (i : Int) := by omega
    have z1 : SA.size ≤ 153600 := by omega
    have z2 : SB.size ≤ 153600 := by omega
    have hX0 : Hid (TnAt (w.alloc (.cells #[.int .i64 3, .int .i64 0, .int .i64 j, .int .i64 k, .int .i64 r.a, .int .i64 r.b, .int .i64 r.c, .int .i64 r.d, .int .i64 r.t] 38)) w.heap.size (fnT j k r)) := Lib.hid (TnAt.alc rfl rfl)
    clear hn s3 s4 hT hz1 hz2 hz3 t1 t2 t3 hsz iha ihb hSa hSb hS q1 q2
    go_enter Tryd.func39, Tryd.ntmps39
    go_wp2_with fail
    clear e0 e1 e2 e3 e4 e5 e6 e7 e8
    refine (kA.out _ (below_alc w _)).mono ?_
    rintro e w1 ⟨rfl, u1, u2, hp1, hg1⟩
    have hX1 := Lib.hid (hX0.out.bar hg1.bar (h.out.fresh (Nat.le_refl _)))
    have hN1 := Lib.hid ((hN.out.below (below_alc w _) hbw).bar hg1.bar (h.out.low hbt hb1 hb1))
    have hV1 : Hid (¬ SV g g u1 u2 w.heap.size) := Lib.hid fun hs => h.out.fresh (Nat.le_refl _) (hg1.away (by simp) hs)
    have hG1 := Lib.hid ((GoV.of_below (below_alc w _)).trans hg1)
    have hP1 := Lib.hid hp1
    have hs1 := hG1.out.bar.size
    clear hp1 hg1
    obtain ⟨x0, x1, x2, x3, x4, x5, x6, x7, x8, x9⟩ := hX1.out
    simp only [fnT] at x1 x2 x3 x4 x5 x6 x7 x8 x9
    go_wp2_with fail
    clear x0 x1 x2 x3 x4 x5 x6 x7 x8 x9
    refine (kS.out _ _ _ hP1.out).mono ?_
    rintro e w2 ⟨rfl, y1, y2, hp2, hg2⟩
    have hX2 := Lib.hid (hX1.out.bar hg2.bar hV1.out)
    have hN2 := Lib.hid (hN1.out.bar hg2.bar (hP1.out.low hbt hb1 hb1))
    have hG2 := Lib.hid (hG1.out.trans hg2)
    have hP2 := Lib.hid hp2
    clear hp2 hg2
    obtain ⟨x0, x1, x2, x3, x4, x5, x6, x7, x8, x9⟩ := hX2.out
    simp only [fnT] at x1 x2 x3 x4 x5 x6 x7 x8 x9
    go_wp2_with fail
    clear x0 x1 x2 x3 x4 x5 x6 x7 x8 x9
    refine (kB.out _ _ _ hP2.out hN2.out).mono ?_
    rintro e w3 ⟨rfl, z1', z2', hp3, hg3⟩
    have hG3 := Lib.hid (hG2.out.trans hg3)
    have hP3 := Lib.hid hp3
    clear hp3 hg3
    go_wp2_with fail
    go_ret
    exact ⟨ret_s (by rw [htx.out]), z1', z2', hP3.out, hG3.out⟩
set_option maxRecDepth 100000 in
set_option maxHeartbeats 8000000 in
theorem rTypeText_any (a : Option Addr) (n c : Nat) (ts : List Ty) (w : World) (h : Hid (TyArg w a n ts)) (hl : n ≤ 140737488351232) :
    Calls Tryd.prog 17 #[.agg #[.slice a n c]] w fun e w' => e = .returned (.tuple #[.string (txV ts), .int .i64 (txE ts)]) ∧ Below w.heap.size w w' := by
  have kM := Lib.hid fun (W : World) (hb : Below w.heap.size w W) => rTyMay_any a n c ts W (Lib.hid (h.out.below hb)) hl
  have hX := Lib.hid (show BoxAt (w.alloc (.cells #[.slice a n c] 24)) w.heap.size (.slice a n c) from box_lit _ _ _ _ rfl)
  cases htv : tyV ts
  · have hv : Hid (txV ts = ⟨#[]⟩ ∧ txE ts = 700) := Lib.hid (by unfold txV txE; rw [htv]; exact ⟨rfl, rfl⟩)
    rw [htv] at kM
    clear htv h
    go_enter Tryd.func17, Tryd.ntmps17
    go_wp2_with fail
    refine (kM.out _ (below_alc w _)).mono ?_
    rintro e w1 ⟨rfl, hb1⟩
    have hB := Lib.hid (belT (below_alc w _) hb1)
    clear hb1
    go_wp2_with fail
    go_ret2
    exact ⟨by rw [hv.out.1, hv.out.2]; rfl, hB.out⟩
  · have hto := tyV_of htv
    have hle := tyV_le htv
    have hv : Hid (txV ts = ⟨(tx (treeOf ts) [] []).toArray⟩ ∧ txE ts = 0) := Lib.hid (by unfold txV txE; rw [htv]; exact ⟨rfl, rfl⟩)
    obtain ⟨rfl, _⟩ := h.out
    obtain ⟨b, off, rfl, hA4, hA5⟩ := tyArg_some h.out htv
    have kT := Lib.hid fun (p : Nat) (W : World) (hp : w.heap.size ≤ p) (hb : Below w.heap.size w W) (hT : TwoI (p + 1) p 0 p 1 W (.slice none 0 0) (.slice none 0 0) [] []) =>
      (show Calls Tryd.prog 39 #[.pointer (some ⟨p, 0, none⟩), .slice (some ⟨b, off, none⟩) ts.length c, .int .i64 ((ts.length : Int) - 1)] W (NtPost (p + 1) p W (.slice none 0 0) (.slice none 0 0) (treeOf ts) [] []) from by
        have := ntext_any p (p + 1) b off c ts (by omega) (by omega) hle.2 (treeOf ts) (ts.length - 1) W (.slice none 0 0) (.slice none 0 0) [] [] (Lib.hid hto.2.2.2.2) hto.1 (Lib.hid (hA4.below hb hA5)) (Lib.hid hT) (by simp; omega) (by simp; omega) (by omega)
        rw [show ((ts.length - 1 : Nat) : Int) = (ts.length : Int) - 1 by omega] at this
        exact this)
    rw [htv] at kM
    unfold NtPost at kT
    generalize (⟨(tx (treeOf ts) [] []).toArray⟩ : ByteArray) = TX at kT hv
    generalize tvs (treeOf ts) [] = L1 at kT
    generalize rvs (treeOf ts) [] = L2 at kT
    clear htv hto hA4 h
    go_enter Tryd.func17, Tryd.ntmps17
    go_wp2_with fail
    refine (kM.out _ (below_alc w _)).mono ?_
    rintro e w1 ⟨rfl, hb1⟩
    have hX1 := Lib.hid (hX.out.below hb1)
    have hB := Lib.hid (belT (below_alc w (.cells #[.slice (some ⟨b, off, none⟩) ts.length c] 24)) hb1)
    have hs1 : w.heap.size + 1 ≤ w1.heap.size := by have := hb1.size; simpa using this
    obtain ⟨x0, x1⟩ := hX1.out
    clear hb1
    have hT1 : Hid (TwoI (w1.heap.size + 1) w1.heap.size 0 w1.heap.size 1 (w1.alloc (.cells #[.slice none 0 0, .slice none 0 0] 82)) (.slice none 0 0) (.slice none 0 0) [] []) := Lib.hid ⟨by simp, by simp, by simp [go_sem], by simp [go_sem], OwnI.nil _ _, OwnI.nil _ _, fun k hk => by simp [Value.ownBlock] at hk, by omega, by omega, by simp, .inr (by omega)⟩
    have hB1 := Lib.hid (hB.out.trans ((below_alc w1 (.cells #[.slice none 0 0, .slice none 0 0] 82)).mono (by omega)))
    go_wp2_with fail
    refine (kT.out w1.heap.size _ (by omega) hB1.out hT1.out).mono ?_
    rintro e w2 ⟨rfl, u1, u2, hp2, hg2⟩
    have hB2 := Lib.hid (hB1.out.trans (hT1.out.belowB hg2 (A := w.heap.size) (by omega) (by omega)))
    clear hp2 hg2
    go_wp2_with fail
    go_ret2
    exact ⟨by rw [hv.out.1, hv.out.2]; rfl, hB2.out⟩
end Go.Proofs.YtfkdcconmecaoaaDoor

/- The reference's Equal. -/
namespace Go.Proofs.YtfkdcconmecaoaaDoor
open Go.RowKit Go.Maps
set_option linter.unusedVariables false
set_option linter.unusedSimpArgs false

set_option maxRecDepth 100000 in
set_option maxHeartbeats 8000000 in
theorem requal_any (a1 a2 : Option Addr) (n1 n2 c1 c2 : Nat) (ts us : List Ty) (w : World) (h : Hid (TyArg w a1 n1 ts)) (h2 : Hid (TyArg w a2 n2 us)) (hl : n1 ≤ 140737488351232) (hl2 : n2 ≤ 140737488351232) :
    Calls Tryd.prog 22 #[.agg #[.slice a1 n1 c1], .agg #[.slice a2 n2 c2]] w fun e w' => e = .returned (.tuple #[.bool (eqV ts us), .int .i64 (eqE ts us)]) ∧ Below w.heap.size w w' := by
  have kM := Lib.hid fun (W : World) (hb : Below w.heap.size w W) => rTypeText_any a1 n1 c1 ts W (Lib.hid (h.out.below hb)) hl
  have kN := Lib.hid fun (W : World) (hb : Below w.heap.size w W) => rTypeText_any a2 n2 c2 us W (Lib.hid (h2.out.below hb)) hl2
  have hX := Lib.hid (show BoxAt ((w.alloc (.cells #[.slice a1 n1 c1] 24)).alloc (.cells #[.slice a2 n2 c2] 24)) w.heap.size (.slice a1 n1 c1) from BoxAt.alloc _ (box_lit _ _ _ _ rfl))
  have hY := Lib.hid (show BoxAt ((w.alloc (.cells #[.slice a1 n1 c1] 24)).alloc (.cells #[.slice a2 n2 c2] 24)) (w.heap.size + 1) (.slice a2 n2 c2) from box_lit _ _ _ _ (by simp))
  cases htv : tyV ts
  · have hv : Hid (eqV ts us = false ∧ eqE ts us = 1100) := Lib.hid (by unfold eqV eqE; rw [htv]; exact ⟨rfl, rfl⟩)
    rw [show txE ts = 700 from by unfold txE; rw [htv]; rfl] at kM
    generalize txV ts = s1 at kM
    generalize txV us = s2 at kN
    generalize txE us = E2 at kN
    clear htv h h2
    go_enter Tryd.func22, Tryd.ntmps22
    go_wp2_with fail
    refine (kM.out _ (below_alc2 w _ _)).mono ?_
    rintro e w1 ⟨rfl, hb1⟩
    have hB := belT (below_alc2 w (.cells #[.slice a1 n1 c1] 24) (.cells #[.slice a2 n2 c2] 24)) hb1
    obtain ⟨x0, x1⟩ := hY.out.below hb1
    clear hb1
    go_wp2_with fail
    refine (kN.out _ hB).mono ?_
    rintro e w2 ⟨rfl, hb2⟩
    go_wp2_with fail
    go_ret2
    exact ⟨by rw [hv.out.1, hv.out.2]; rfl, belT hB hb2⟩
  cases huv : tyV us
  · have hv : Hid (eqV ts us = false ∧ eqE ts us = 1100) := Lib.hid (by unfold eqV eqE; rw [htv, huv]; exact ⟨rfl, rfl⟩)
    rw [show txE ts = 0 from by unfold txE; rw [htv]; rfl] at kM
    rw [show txE us = 700 from by unfold txE; rw [huv]; rfl] at kN
    generalize txV ts = s1 at kM
    generalize txV us = s2 at kN
    clear htv huv h h2
    go_enter Tryd.func22, Tryd.ntmps22
    go_wp2_with fail
    refine (kM.out _ (below_alc2 w _ _)).mono ?_
    rintro e w1 ⟨rfl, hb1⟩
    have hB := belT (below_alc2 w (.cells #[.slice a1 n1 c1] 24) (.cells #[.slice a2 n2 c2] 24)) hb1
    obtain ⟨x0, x1⟩ := hY.out.below hb1
    clear hb1
    go_wp2_with fail
    refine (kN.out _ hB).mono ?_
    rintro e w2 ⟨rfl, hb2⟩
    go_wp2_with fail
    go_ret2
    exact ⟨by rw [hv.out.1, hv.out.2]; rfl, belT hB hb2⟩
  · have hv : Hid (eqV ts us = decide (txV ts = txV us) ∧ eqE ts us = 0) := Lib.hid (by unfold eqV eqE; rw [htv, huv]; exact ⟨rfl, rfl⟩)
    rw [show txE ts = 0 from by unfold txE; rw [htv]; rfl] at kM
    rw [show txE us = 0 from by unfold txE; rw [huv]; rfl] at kN
    generalize txV ts = s1 at kM hv
    generalize txV us = s2 at kN hv
    obtain ⟨q, hq⟩ : ∃ q, (s1.toList == s2.toList) = q := ⟨_, rfl⟩
    have hv : Hid (eqV ts us = q ∧ eqE ts us = 0) := Lib.hid ⟨by rw [hv.out.1, ← hq, Bool.eq_iff_iff, decide_eq_true_iff, beq_iff_eq, Lib.toList_data, Lib.toList_data]; exact ⟨fun h => by rw [h], fun h => ba_ext h⟩, hv.out.2⟩
    clear htv huv h h2
    go_enter Tryd.func22, Tryd.ntmps22
    go_wp2_with fail
    refine (kM.out _ (below_alc2 w _ _)).mono ?_
    rintro e w1 ⟨rfl, hb1⟩
    have hB := belT (below_alc2 w (.cells #[.slice a1 n1 c1] 24) (.cells #[.slice a2 n2 c2] 24)) hb1
    obtain ⟨x0, x1⟩ := hY.out.below hb1
    clear hb1
    go_wp2_with fail
    refine (kN.out _ hB).mono ?_
    rintro e w2 ⟨rfl, hb2⟩
    go_wp2_with fail
    go_ret2
    exact ⟨by rw [hv.out.1, hv.out.2]; rfl, belT hB hb2⟩
end Go.Proofs.YtfkdcconmecaoaaDoor
