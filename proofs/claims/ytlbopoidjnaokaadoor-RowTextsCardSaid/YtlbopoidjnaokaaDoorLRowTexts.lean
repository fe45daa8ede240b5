/- RowTexts holds for every row of counts and every number. No condition but that the listed package variables hold what the program's text lays. -/
import Derived.Test.YtlbopoidjnaokaaDoorRwH
import Derived.Test.YtlbopoidjnaokaaDoorDecB
import Derived.Test.YtlbopoidjnaokaaDoorAid
import Derived.Test.YtlbopoidjnaokaaDoorInt
import Derived.Test.YtlbopoidjnaokaaDoorCards
import Derived.Test.YtlbopoidjnaokaaDoorTie
import Derived.Test.YtlbopoidjnaokaaDoorOpn
import Derived.Test.YtlbopoidjnaokaaDoorCrd
import Derived.WalkKit
import Derived.ProofKit
import Derived.Deep.DeepHandedRow
namespace Go.Proofs.YtlbopoidjnaokaaDoor.rowTexts
open Go.ChangeShapes Go.WideShapes Go.ChangeAt Go.RowKit
open Go.ChangeMaps (open_string shut_string)
set_option linter.unusedVariables false
set_option linter.unusedSimpArgs false

def jB (l : List ByteArray) : ByteArray := ⟨(Lib.join (l.map (·.data.toList)) [44]).toArray⟩
theorem jB_nil : jB [] = ⟨#[]⟩ := by unfold jB; rw [List.map_nil, Lib.join_nil]
theorem jB_one (x : ByteArray) : jB [x] = x := by
  apply ba_ext; unfold jB; rw [List.map_cons, List.map_nil, Lib.join_cons]; simp [Lib.joinTail]
theorem jB_snoc {l : List ByteArray} (h : l ≠ []) (x : ByteArray) : jB (l ++ [x]) = jB l ++ ⟨#[44]⟩ ++ x := by
  cases l with
  | nil => exact absurd rfl h
  | cons y r =>
    apply ba_ext
    unfold jB
    rw [List.cons_append, List.map_cons, Lib.join_cons, List.map_cons, Lib.join_cons, List.map_append]
    simp [Lib.joinTail]
theorem jB_len (n : Nat → Nat) (hn : ∀ i, n i ≤ 3) (k j : Nat) (hk : k ≤ 4) (hj : j ≤ 3) : (jB (opsL n k ++ List.replicate j (opB k))).size ≤ 60 := by
  have h1 : (jB (opsL n k ++ List.replicate j (opB k))).size = (Lib.join ((opsL n k ++ List.replicate j (opB k)).map (·.data.toList)) [44]).length := rfl
  have h2 := join_len ((opsL n k ++ List.replicate j (opB k)).map (·.data.toList)) (by
    intro x hx
    obtain ⟨y, hy, rfl⟩ := List.mem_map.1 hx
    rcases List.mem_append.1 hy with h | h
    · have := opsL_size n k y h; rw [← this]; simp
    · rw [List.eq_of_mem_replicate h]; rfl)
  have h3 := opsL_len n 3 hn k
  rw [h1]
  rw [List.length_map, List.length_append, List.length_replicate] at h2
  omega
theorem jB_pos {l : List ByteArray} (h : l ≠ []) (hs : ∀ x ∈ l, x.size = 2) : (jB l).toList.isEmpty = false ∧ ((jB l).toList == []) = false := by
  cases l with
  | nil => exact absurd rfl h
  | cons y r =>
    have hy := hs y (List.mem_cons_self ..)
    have : ∃ c t, (jB (y :: r)).toList = c :: t := by
      rw [Lib.toList_data]
      unfold jB
      rw [List.map_cons, Lib.join_cons]
      cases hd : y.data.toList with
      | nil =>
        have hlen : y.data.toList.length = 2 := by rw [← hy]; simp
        rw [hd] at hlen; simp at hlen
      | cons c t => exact ⟨c, _, rfl⟩
    obtain ⟨c, t, e⟩ := this
    rw [e]; exact ⟨rfl, rfl⟩
theorem ops_all (n : Nat → Nat) (k j : Nat) : ∀ x ∈ opsL n k ++ List.replicate j (opB k), x.size = 2 := by
  intro x hx
  rcases List.mem_append.1 hx with h | h
  · exact opsL_size n k x h
  · rw [List.eq_of_mem_replicate h]; rfl
/-- the row as it is filled. -/
def RC (B : Nat) (n0 n1 n2 n3 t : Int) (W : World) : Prop := W.cell? ⟨B, 0, none⟩ = some (.int .i64 n0) ∧ W.cell? ⟨B, 1, none⟩ = some (.int .i64 n1) ∧ W.cell? ⟨B, 2, none⟩ = some (.int .i64 n2) ∧ W.cell? ⟨B, 3, none⟩ = some (.int .i64 n3) ∧ W.cell? ⟨B, 4, none⟩ = some (.int .i64 t) ∧ (∀ o, W.frozen? ⟨B, o, none⟩ = false) ∧ B < W.heap.size
theorem RC.below {B : Nat} {n0 n1 n2 n3 t : Int} {W W1 : World} (h : RC B n0 n1 n2 n3 t W) (hb : Below W.heap.size W W1) : RC B n0 n1 n2 n3 t W1 := by
  obtain ⟨h0, h1, h2, h3, h4, h5, h6⟩ := h
  exact ⟨carry hb h6 h0, carry hb h6 h1, carry hb h6 h2, carry hb h6 h3, carry hb h6 h4, fun o => by rw [hb.frozen (p := ⟨B, o, none⟩) h6]; exact h5 o, by have := hb.size; omega⟩
theorem setS {W : World} {p : Addr} {v u : Value} (h : W.cell? p = some u) : (W.setCell p v).cell? p = some v := by
  rw [World.cell?_setCell_same _ _ _ h]
theorem setO {W : World} {p q : Addr} {v u : Value} (h : W.cell? p = some u) (hne : q ≠ p) : (W.setCell q v).cell? p = some u := (World.cell?_setCell_other _ _ _ _ hne).trans h
theorem RC.set0 {B : Nat} {n0 n1 n2 n3 t v : Int} {W : World} (h : RC B n0 n1 n2 n3 t W) : RC B v n1 n2 n3 t (W.setCell ⟨B, 0, none⟩ (.int .i64 v)) := by
  obtain ⟨h0, h1, h2, h3, h4, h5, h6⟩ := h
  exact ⟨setS h0, setO h1 (by simp), setO h2 (by simp), setO h3 (by simp), setO h4 (by simp), fun o => by rw [show (W.setCell ⟨B, 0, none⟩ (.int .i64 v)).frozen? ⟨B, o, none⟩ = W.frozen? ⟨B, o, none⟩ from by simp [go_sem]]; exact h5 o, by simpa using h6⟩
theorem RC.set1 {B : Nat} {n0 n1 n2 n3 t v : Int} {W : World} (h : RC B n0 n1 n2 n3 t W) : RC B n0 v n2 n3 t (W.setCell ⟨B, 1, none⟩ (.int .i64 v)) := by
  obtain ⟨h0, h1, h2, h3, h4, h5, h6⟩ := h
  exact ⟨setO h0 (by simp), setS h1, setO h2 (by simp), setO h3 (by simp), setO h4 (by simp), fun o => by rw [show (W.setCell ⟨B, 1, none⟩ (.int .i64 v)).frozen? ⟨B, o, none⟩ = W.frozen? ⟨B, o, none⟩ from by simp [go_sem]]; exact h5 o, by simpa using h6⟩
theorem RC.set2 {B : Nat} {n0 n1 n2 n3 t v : Int} {W : World} (h : RC B n0 n1 n2 n3 t W) : RC B n0 n1 v n3 t (W.setCell ⟨B, 2, none⟩ (.int .i64 v)) := by
  obtain ⟨h0, h1, h2, h3, h4, h5, h6⟩ := h
  exact ⟨setO h0 (by simp), setO h1 (by simp), setS h2, setO h3 (by simp), setO h4 (by simp), fun o => by rw [show (W.setCell ⟨B, 2, none⟩ (.int .i64 v)).frozen? ⟨B, o, none⟩ = W.frozen? ⟨B, o, none⟩ from by simp [go_sem]]; exact h5 o, by simpa using h6⟩
theorem RC.set3 {B : Nat} {n0 n1 n2 n3 t v : Int} {W : World} (h : RC B n0 n1 n2 n3 t W) : RC B n0 n1 n2 v t (W.setCell ⟨B, 3, none⟩ (.int .i64 v)) := by
  obtain ⟨h0, h1, h2, h3, h4, h5, h6⟩ := h
  exact ⟨setO h0 (by simp), setO h1 (by simp), setO h2 (by simp), setS h3, setO h4 (by simp), fun o => by rw [show (W.setCell ⟨B, 3, none⟩ (.int .i64 v)).frozen? ⟨B, o, none⟩ = W.frozen? ⟨B, o, none⟩ from by simp [go_sem]]; exact h5 o, by simpa using h6⟩
theorem RC.set4 {B : Nat} {n0 n1 n2 n3 t v : Int} {W : World} (h : RC B n0 n1 n2 n3 t W) : RC B n0 n1 n2 n3 v (W.setCell ⟨B, 4, none⟩ (.int .i64 v)) := by
  obtain ⟨h0, h1, h2, h3, h4, h5, h6⟩ := h
  exact ⟨setO h0 (by simp), setO h1 (by simp), setO h2 (by simp), setO h3 (by simp), setS h4, fun o => by rw [show (W.setCell ⟨B, 4, none⟩ (.int .i64 v)).frozen? ⟨B, o, none⟩ = W.frozen? ⟨B, o, none⟩ from by simp [go_sem]]; exact h5 o, by simpa using h6⟩
theorem dig_any (k : Nat) (hk : k < 10) (W : World) : Calls Tryd.prog 22 #[.int .i64 (k : Int)] W fun e w' => e = .returned (.string ⟨#[UInt8.ofNat (48 + k)]⟩) ∧ Below W.heap.size W w' :=
  (dec_any (k : Int) W (by omega) (by omega)).mono fun e w' h => by
    unfold DecPost at h
    rw [show Lib.itoa (k : Int) = [UInt8.ofNat (48 + k)] from by unfold Lib.itoa; rw [if_neg (by omega)]; exact ddi k hk] at h
    exact h
/-- what the counts come to. -/
def cf (l : List Int) (i : Nat) : Nat := if i < l.length then (l.getD i 0 % 4).toNat else 0
theorem cf_le (l : List Int) (i : Nat) : cf l i ≤ 3 := by unfold cf; split <;> omega
theorem cf_in {l : List Int} {i : Nat} (h : i < l.length) : (cf l i : Int) = l.getD i 0 % 4 := by unfold cf; rw [if_pos h]; omega
theorem cf_out {l : List Int} {i : Nat} (h : ¬ i < l.length) : cf l i = 0 := by unfold cf; rw [if_neg h]
/-- the counts as they came in. -/
def IA (W : World) (v : Value) (l : List Int) : Prop := (l = [] ∧ ∃ ad c, v = .slice ad 0 c) ∨ ∃ b off c, v = .slice (some ⟨b, off, none⟩) l.length c ∧ b < W.heap.size ∧ ∀ i, i < l.length → W.cell? ⟨b, off + i, none⟩ = some (.int .i64 (l.getD i 0))
def TxRel (l : List Int) (B : Nat) (w1 : World) (k : Nat) (want : Value) (wr : World) : Prop := want = .string (jB (opsL (cf l) k)) ∧ RC B (if 0 < k then (cf l 0 : Int) else 0) (if 1 < k then (cf l 1 : Int) else 0) (if 2 < k then (cf l 2 : Int) else 0) (if 3 < k then (cf l 3 : Int) else 0) (-1) wr ∧ Below w1.heap.size w1 wr
theorem row_eq (c0 c1 c2 c3 : Nat) (l : List Int) (h0 : cf l 0 = c0) (h1 : cf l 1 = c1) (h2 : cf l 2 = c2) (h3 : cf l 3 = c3) : opsL (cnt4 c0 c1 c2 c3) 4 = opsL (cf l) 4 := by
  simp [opsL, cnt4, h0, h1, h2, h3]

set_option maxRecDepth 100000 in
set_option maxHeartbeats 8000000 in
theorem walk_in (ad : Option Addr) (ln cp : Nat) (l : List Int) (tail : Int) (w : World) (hll : Hid (l.length = ln)) (hlm : (ln : Int) ≤ 9223372036854775807)
    (hia : Hid (∀ i, i < ln → ∃ b off, ad = some ⟨b, off, none⟩ ∧ b < w.heap.size ∧ w.cell? ⟨b, off + i, none⟩ = some (.int .i64 (l.getD i 0)))) :
    Calls Tryd.prog 7 #[.slice ad ln cp, .int .i64 tail] w fun e w' => e = .returned (.bool true) ∧ Below w.heap.size w w' := by
  go_enter Tryd.func7, Tryd.ntmps7
  go_wp2_with fail
  refine (awake_any _).mono ?_
  rintro e w1 ⟨rfl, hw1⟩
  have hB1 := Lib.hid hw1
  have hs1 := hw1.size
  clear hw1
  go_wp2_with fail
  go_loopw [6, 7] (fun want i wr => ∃ (k : Nat) (z : Int), k ≤ 4 ∧ i = .int .i64 z ∧ z = k ∧ Hid (TxRel l w1.heap.size w1 k want wr)) (fun _ i _ => 4 - (intOf i).toNat)
  case atStart => exact ⟨0, 0, by omega, rfl, rfl, Lib.hid ⟨by rw [show opsL (cf l) 0 = [] from rfl, jB_nil], ⟨by simp, by simp, by simp, by simp, by simp, fun o => by simp [go_sem], by simp⟩, by (repeat' (first | with_reducible exact Below.refl _ _ | with_reducible assumption | with_reducible apply Below.setCell | with_reducible apply Below.alloc | with_reducible apply Below.drew | with_reducible apply below_drewN | with_reducible exact Nat.le_refl _ | (simp; done) | (simp; omega) | omega | exact Nat.le_refl _))⟩⟩
  case round =>
    obtain ⟨k, z, hk, rfl, hz, hrl⟩ := hrel
    have hk5 : k = 0 ∨ k = 1 ∨ k = 2 ∨ k = 3 ∨ k = 4 := by omega
    rcases hk5 with rfl | rfl | rfl | rfl | rfl
    · obtain rfl : z = 0 := by omega
      clear hz
      obtain ⟨rfl, hrc, hbw⟩ := hrl.out
      have hrc : RC w1.heap.size 0 0 0 0 (-1) wr := hrc
      have hfz : wr.frozen? ⟨w1.heap.size, 0, none⟩ = false := hrc.2.2.2.2.2.1 0
      have hce : wr.cell? ⟨w1.heap.size, 0, none⟩ = some (.int .i64 0) := hrc.1
      have hrc' := Lib.hid hrc
      have hws := hbw.size
      have hrz : w1.heap.size < wr.heap.size := hrc.2.2.2.2.2.2
      have hbw' := Lib.hid hbw
      have hjl := Lib.hid fun (j : Nat) (hj : j ≤ 3) => jB_len (cf l) (cf_le l) 0 j (by omega) hj
      have hm3 := cf_le l 0
      have hD := Lib.hid fun (W : World) => (show Calls Tryd.prog 22 #[.int .i64 0] W fun e w' => e = .returned (.string ⟨#[48]⟩) ∧ Below W.heap.size W w' from dig_any 0 (by omega) W)
      clear hrc hbw hrl
      by_cases hin : (0 : Int) < (ln : Int)
      · have hcfi : Hid ((cf l 0 : Int) = l.getD 0 0 % 4) := Lib.hid (cf_in (by rw [hll.out]; omega))
        obtain ⟨b, off, rfl, hbl, hcx⟩ := hia.out 0 (by omega)
        have hcx2 : wr.cell? ⟨b, off, none⟩ = some (.int .i64 (l.getD 0 0)) := carry (belT hB1.out hbw'.out) hbl (by rw [Nat.add_zero] at hcx; exact hcx)
        have hdd : decide (0 < ln) = true := decide_eq_true (by omega)
        have hand := and3 (l.getD 0 0)
        obtain ⟨m, hm⟩ : ∃ m : Nat, cf l 0 = m := ⟨_, rfl⟩
        have hmm : l.getD 0 0 % 4 = (m : Int) := by rw [← hcfi.out, hm]
        rw [hmm] at hand
        generalize l.getD 0 0 = xv at hcx2 hand
        rw [hm] at hm3
        have hm' := Lib.hid hm
        clear hmm hm hcfi hcx
        go_wp2_with fail
        go_loopw [6, 9] (fun want j wr2 => ∃ jn : Nat, jn ≤ m ∧ j = .int .i64 jn ∧ want = .string (jB (opsL (cf l) 0 ++ List.replicate jn (opB 0))) ∧ Hid (RC w1.heap.size (m : Int) 0 0 0 (-1) wr2 ∧ Below w1.heap.size w1 wr2)) (fun _ j _ => m - (intOf j).toNat)
        case atStart => exact ⟨0, by omega, rfl, by simp, Lib.hid ⟨RC.set0 hrc'.out, hbw'.out.setCell (Nat.le_refl _) _⟩⟩
        case round =>
          obtain ⟨jn, hjm, rfl, rfl, hI⟩ := hrel
          by_cases hlt : jn < m
          · obtain ⟨L, hL⟩ : ∃ L, opsL (cf l) 0 ++ List.replicate jn (opB 0) = L := ⟨_, rfl⟩
            have hL2 : Hid (opsL (cf l) 0 ++ List.replicate (jn + 1) (opB 0) = L ++ [opB 0]) := Lib.hid (by rw [← hL, rep_snoc])
            have hsz := hjl.out jn (by omega)
            have hall := ops_all (cf l) 0 jn
            rw [hL] at hsz hall ⊢
            by_cases hLn : L = []
            · subst hLn
              rw [jB_nil]
              have t1 : ((⟨#[]⟩ : ByteArray).toList == []) = true := by rw [Lib.toList_data]; rfl
              have t2 : (⟨#[]⟩ : ByteArray).toList.isEmpty = true := by rw [Lib.toList_data]; rfl
              clear hL hsz hall
              go_wp2_with fail
              refine (hD.out _).mono ?_
              rintro e w9 ⟨rfl, hb9⟩
              have hI9 := Lib.hid (show RC w1.heap.size (m : Int) 0 0 0 (-1) w9 ∧ Below w1.heap.size w1 w9 from ⟨hI.out.1.below hb9, hI.out.2.trans (hb9.mono hI.out.2.size)⟩)
              clear hb9
              go_wp2_with fail
              go_roundw
              case rel => exact ⟨jn + 1, by omega, by go_num, by rw [hL2.out, List.nil_append, jB_one]; rfl, hI9⟩
              case measure => simp [intOf] <;> omega
            · obtain ⟨t1, t2⟩ := jB_pos hLn hall
              have hsn := jB_snoc hLn (opB 0)
              obtain ⟨x, hx⟩ : ∃ x, jB L = x := ⟨_, rfl⟩
              rw [hx] at t1 t2 hsn hsz ⊢
              have hsn' := Lib.hid hsn
              clear hL hall hsn hx
              go_wp2_with fail
              refine (hD.out _).mono ?_
              rintro e w9 ⟨rfl, hb9⟩
              have hI9 := Lib.hid (show RC w1.heap.size (m : Int) 0 0 0 (-1) w9 ∧ Below w1.heap.size w1 w9 from ⟨hI.out.1.below hb9, hI.out.2.trans (hb9.mono hI.out.2.size)⟩)
              clear hb9
              go_wp2_with fail
              go_roundw
              case rel => exact ⟨jn + 1, by omega, by go_num, by rw [hL2.out, hsn'.out]; congr 1; apply ba_ext; simp [opB], hI9⟩
              case measure => simp [intOf] <;> omega
          · obtain rfl : jn = m := by omega
            go_wp2_with fail
            go_roundw
            case rel => exact ⟨1, 1, by omega, rfl, rfl, Lib.hid ⟨by rw [show opsL (cf l) 1 = opsL (cf l) 0 ++ List.replicate (cf l 0) (opB 0) from rfl, hm'.out], by have := hI.out.1; rw [← hm'.out] at this; exact this, hI.out.2⟩⟩
            case measure => simp [intOf] <;> omega
      · have hcfo : cf l 0 = 0 := cf_out (by rw [hll.out]; omega)
        obtain ⟨m, hm⟩ : ∃ m : Nat, cf l 0 = m := ⟨_, rfl⟩
        have hm' := Lib.hid hcfo
        clear hm hcfo
        go_wp2_with fail
        go_loopw [6, 9] (fun want j wr2 => j = .int .i64 0 ∧ want = .string (jB (opsL (cf l) 0)) ∧ Hid (RC w1.heap.size 0 0 0 0 (-1) wr2 ∧ Below w1.heap.size w1 wr2)) (fun _ _ _ => 0)
        case atStart => exact ⟨rfl, rfl, Lib.hid ⟨RC.set0 hrc'.out, hbw'.out.setCell (Nat.le_refl _) _⟩⟩
        case round =>
          obtain ⟨rfl, rfl, hI⟩ := hrel
          go_wp2_with fail
          go_roundw
          case rel => exact ⟨1, 1, by omega, rfl, rfl, Lib.hid ⟨by rw [show opsL (cf l) 1 = opsL (cf l) 0 ++ List.replicate (cf l 0) (opB 0) from rfl, hm'.out]; simp, by show RC w1.heap.size (cf l 0 : Int) 0 0 0 (-1) _; rw [hm'.out]; exact hI.out.1, hI.out.2⟩⟩
          case measure => simp [intOf]
    · obtain rfl : z = 1 := by omega
      clear hz
      obtain ⟨rfl, hrc, hbw⟩ := hrl.out
      have hrc : RC w1.heap.size (cf l 0 : Int) 0 0 0 (-1) wr := hrc
      have hfz : wr.frozen? ⟨w1.heap.size, 1, none⟩ = false := hrc.2.2.2.2.2.1 1
      have hce : wr.cell? ⟨w1.heap.size, 1, none⟩ = some (.int .i64 0) := hrc.2.1
      have hrc' := Lib.hid hrc
      have hws := hbw.size
      have hrz : w1.heap.size < wr.heap.size := hrc.2.2.2.2.2.2
      have hbw' := Lib.hid hbw
      have hjl := Lib.hid fun (j : Nat) (hj : j ≤ 3) => jB_len (cf l) (cf_le l) 1 j (by omega) hj
      have hm3 := cf_le l 1
      have hD := Lib.hid fun (W : World) => (show Calls Tryd.prog 22 #[.int .i64 1] W fun e w' => e = .returned (.string ⟨#[49]⟩) ∧ Below W.heap.size W w' from dig_any 1 (by omega) W)
      clear hrc hbw hrl
      by_cases hin : (1 : Int) < (ln : Int)
      · have hcfi : Hid ((cf l 1 : Int) = l.getD 1 0 % 4) := Lib.hid (cf_in (by rw [hll.out]; omega))
        obtain ⟨b, off, rfl, hbl, hcx⟩ := hia.out 1 (by omega)
        have hcx2 : wr.cell? ⟨b, off + 1, none⟩ = some (.int .i64 (l.getD 1 0)) := carry (belT hB1.out hbw'.out) hbl hcx
        have hand := and3 (l.getD 1 0)
        obtain ⟨m, hm⟩ : ∃ m : Nat, cf l 1 = m := ⟨_, rfl⟩
        have hmm : l.getD 1 0 % 4 = (m : Int) := by rw [← hcfi.out, hm]
        rw [hmm] at hand
        generalize l.getD 1 0 = xv at hcx2 hand
        rw [hm] at hm3
        have hm' := Lib.hid hm
        clear hmm hm hcfi hcx
        go_wp2_with fail
        go_loopw [6, 9] (fun want j wr2 => ∃ jn : Nat, jn ≤ m ∧ j = .int .i64 jn ∧ want = .string (jB (opsL (cf l) 1 ++ List.replicate jn (opB 1))) ∧ Hid (RC w1.heap.size (cf l 0 : Int) (m : Int) 0 0 (-1) wr2 ∧ Below w1.heap.size w1 wr2)) (fun _ j _ => m - (intOf j).toNat)
        case atStart => exact ⟨0, by omega, rfl, by simp, Lib.hid ⟨RC.set1 hrc'.out, hbw'.out.setCell (Nat.le_refl _) _⟩⟩
        case round =>
          obtain ⟨jn, hjm, rfl, rfl, hI⟩ := hrel
          by_cases hlt : jn < m
          · obtain ⟨L, hL⟩ : ∃ L, opsL (cf l) 1 ++ List.replicate jn (opB 1) = L := ⟨_, rfl⟩
            have hL2 : Hid (opsL (cf l) 1 ++ List.replicate (jn + 1) (opB 1) = L ++ [opB 1]) := Lib.hid (by rw [← hL, rep_snoc])
            have hsz := hjl.out jn (by omega)
            have hall := ops_all (cf l) 1 jn
            rw [hL] at hsz hall ⊢
            by_cases hLn : L = []
            · subst hLn
              rw [jB_nil]
              have t1 : ((⟨#[]⟩ : ByteArray).toList == []) = true := by rw [Lib.toList_data]; rfl
              have t2 : (⟨#[]⟩ : ByteArray).toList.isEmpty = true := by rw [Lib.toList_data]; rfl
              clear hL hsz hall
              go_wp2_with fail
              refine (hD.out _).mono ?_
              rintro e w9 ⟨rfl, hb9⟩
              have hI9 := Lib.hid (show RC w1.heap.size (cf l 0 : Int) (m : Int) 0 0 (-1) w9 ∧ Below w1.heap.size w1 w9 from ⟨hI.out.1.below hb9, hI.out.2.trans (hb9.mono hI.out.2.size)⟩)
              clear hb9
              go_wp2_with fail
              go_roundw
              case rel => exact ⟨jn + 1, by omega, by go_num, by rw [hL2.out, List.nil_append, jB_one]; rfl, hI9⟩
              case measure => simp [intOf] <;> omega
            · obtain ⟨t1, t2⟩ := jB_pos hLn hall
              have hsn := jB_snoc hLn (opB 1)
              obtain ⟨x, hx⟩ : ∃ x, jB L = x := ⟨_, rfl⟩
              rw [hx] at t1 t2 hsn hsz ⊢
              have hsn' := Lib.hid hsn
              clear hL hall hsn hx
              go_wp2_with fail
              refine (hD.out _).mono ?_
              rintro e w9 ⟨rfl, hb9⟩
              have hI9 := Lib.hid (show RC w1.heap.size (cf l 0 : Int) (m : Int) 0 0 (-1) w9 ∧ Below w1.heap.size w1 w9 from ⟨hI.out.1.below hb9, hI.out.2.trans (hb9.mono hI.out.2.size)⟩)
              clear hb9
              go_wp2_with fail
              go_roundw
              case rel => exact ⟨jn + 1, by omega, by go_num, by rw [hL2.out, hsn'.out]; congr 1; apply ba_ext; simp [opB], hI9⟩
              case measure => simp [intOf] <;> omega
          · obtain rfl : jn = m := by omega
            go_wp2_with fail
            go_roundw
            case rel => exact ⟨2, 2, by omega, rfl, rfl, Lib.hid ⟨by rw [show opsL (cf l) 2 = opsL (cf l) 1 ++ List.replicate (cf l 1) (opB 1) from rfl, hm'.out], by have := hI.out.1; rw [← hm'.out] at this; exact this, hI.out.2⟩⟩
            case measure => simp [intOf] <;> omega
      · have hcfo : cf l 1 = 0 := cf_out (by rw [hll.out]; omega)
        obtain ⟨m, hm⟩ : ∃ m : Nat, cf l 1 = m := ⟨_, rfl⟩
        have hm' := Lib.hid hcfo
        clear hm hcfo
        go_wp2_with fail
        go_loopw [6, 9] (fun want j wr2 => j = .int .i64 0 ∧ want = .string (jB (opsL (cf l) 1)) ∧ Hid (RC w1.heap.size (cf l 0 : Int) 0 0 0 (-1) wr2 ∧ Below w1.heap.size w1 wr2)) (fun _ _ _ => 0)
        case atStart => exact ⟨rfl, rfl, Lib.hid ⟨RC.set1 hrc'.out, hbw'.out.setCell (Nat.le_refl _) _⟩⟩
        case round =>
          obtain ⟨rfl, rfl, hI⟩ := hrel
          go_wp2_with fail
          go_roundw
          case rel => exact ⟨2, 2, by omega, rfl, rfl, Lib.hid ⟨by rw [show opsL (cf l) 2 = opsL (cf l) 1 ++ List.replicate (cf l 1) (opB 1) from rfl, hm'.out]; simp, by show RC w1.heap.size (cf l 0 : Int) (cf l 1 : Int) 0 0 (-1) _; rw [hm'.out]; exact hI.out.1, hI.out.2⟩⟩
          case measure => simp [intOf]
    · obtain rfl : z = 2 := by omega
      clear hz
      obtain ⟨rfl, hrc, hbw⟩ := hrl.out
      have hrc : RC w1.heap.size (cf l 0 : Int) (cf l 1 : Int) 0 0 (-1) wr := hrc
      have hfz : wr.frozen? ⟨w1.heap.size, 2, none⟩ = false := hrc.2.2.2.2.2.1 2
      have hce : wr.cell? ⟨w1.heap.size, 2, none⟩ = some (.int .i64 0) := hrc.2.2.1
      have hrc' := Lib.hid hrc
      have hws := hbw.size
      have hrz : w1.heap.size < wr.heap.size := hrc.2.2.2.2.2.2
      have hbw' := Lib.hid hbw
      have hjl := Lib.hid fun (j : Nat) (hj : j ≤ 3) => jB_len (cf l) (cf_le l) 2 j (by omega) hj
      have hm3 := cf_le l 2
      have hD := Lib.hid fun (W : World) => (show Calls Tryd.prog 22 #[.int .i64 2] W fun e w' => e = .returned (.string ⟨#[50]⟩) ∧ Below W.heap.size W w' from dig_any 2 (by omega) W)
      clear hrc hbw hrl
      by_cases hin : (2 : Int) < (ln : Int)
      · have hcfi : Hid ((cf l 2 : Int) = l.getD 2 0 % 4) := Lib.hid (cf_in (by rw [hll.out]; omega))
        obtain ⟨b, off, rfl, hbl, hcx⟩ := hia.out 2 (by omega)
        have hcx2 : wr.cell? ⟨b, off + 2, none⟩ = some (.int .i64 (l.getD 2 0)) := carry (belT hB1.out hbw'.out) hbl hcx
        have hand := and3 (l.getD 2 0)
        obtain ⟨m, hm⟩ : ∃ m : Nat, cf l 2 = m := ⟨_, rfl⟩
        have hmm : l.getD 2 0 % 4 = (m : Int) := by rw [← hcfi.out, hm]
        rw [hmm] at hand
        generalize l.getD 2 0 = xv at hcx2 hand
        rw [hm] at hm3
        have hm' := Lib.hid hm
        clear hmm hm hcfi hcx
        go_wp2_with fail
        go_loopw [6, 9] (fun want j wr2 => ∃ jn : Nat, jn ≤ m ∧ j = .int .i64 jn ∧ want = .string (jB (opsL (cf l) 2 ++ List.replicate jn (opB 2))) ∧ Hid (RC w1.heap.size (cf l 0 : Int) (cf l 1 : Int) (m : Int) 0 (-1) wr2 ∧ Below w1.heap.size w1 wr2)) (fun _ j _ => m - (intOf j).toNat)
        case atStart => exact ⟨0, by omega, rfl, by simp, Lib.hid ⟨RC.set2 hrc'.out, hbw'.out.setCell (Nat.le_refl _) _⟩⟩
        case round =>
          obtain ⟨jn, hjm, rfl, rfl, hI⟩ := hrel
          by_cases hlt : jn < m
          · obtain ⟨L, hL⟩ : ∃ L, opsL (cf l) 2 ++ List.replicate jn (opB 2) = L := ⟨_, rfl⟩
            have hL2 : Hid (opsL (cf l) 2 ++ List.replicate (jn + 1) (opB 2) = L ++ [opB 2]) := Lib.hid (by rw [← hL, rep_snoc])
            have hsz := hjl.out jn (by omega)
            have hall := ops_all (cf l) 2 jn
            rw [hL] at hsz hall ⊢
            by_cases hLn : L = []
            · subst hLn
              rw [jB_nil]
              have t1 : ((⟨#[]⟩ : ByteArray).toList == []) = true := by rw [Lib.toList_data]; rfl
              have t2 : (⟨#[]⟩ : ByteArray).toList.isEmpty = true := by rw [Lib.toList_data]; rfl
              clear hL hsz hall
              go_wp2_with fail
              refine (hD.out _).mono ?_
              rintro e w9 ⟨rfl, hb9⟩
              have hI9 := Lib.hid (show RC w1.heap.size (cf l 0 : Int) (cf l 1 : Int) (m : Int) 0 (-1) w9 ∧ Below w1.heap.size w1 w9 from ⟨hI.out.1.below hb9, hI.out.2.trans (hb9.mono hI.out.2.size)⟩)
              clear hb9
              go_wp2_with fail
              go_roundw
              case rel => exact ⟨jn + 1, by omega, by go_num, by rw [hL2.out, List.nil_append, jB_one]; rfl, hI9⟩
              case measure => simp [intOf] <;> omega
            · obtain ⟨t1, t2⟩ := jB_pos hLn hall
              have hsn := jB_snoc hLn (opB 2)
              obtain ⟨x, hx⟩ : ∃ x, jB L = x := ⟨_, rfl⟩
              rw [hx] at t1 t2 hsn hsz ⊢
              have hsn' := Lib.hid hsn
              clear hL hall hsn hx
              go_wp2_with fail
              refine (hD.out _).mono ?_
              rintro e w9 ⟨rfl, hb9⟩
              have hI9 := Lib.hid (show RC w1.heap.size (cf l 0 : Int) (cf l 1 : Int) (m : Int) 0 (-1) w9 ∧ Below w1.heap.size w1 w9 from ⟨hI.out.1.below hb9, hI.out.2.trans (hb9.mono hI.out.2.size)⟩)
              clear hb9
              go_wp2_with fail
              go_roundw
              case rel => exact ⟨jn + 1, by omega, by go_num, by rw [hL2.out, hsn'.out]; congr 1; apply ba_ext; simp [opB], hI9⟩
              case measure => simp [intOf] <;> omega
          · obtain rfl : jn = m := by omega
            go_wp2_with fail
            go_roundw
            case rel => exact ⟨3, 3, by omega, rfl, rfl, Lib.hid ⟨by rw [show opsL (cf l) 3 = opsL (cf l) 2 ++ List.replicate (cf l 2) (opB 2) from rfl, hm'.out], by have := hI.out.1; rw [← hm'.out] at this; exact this, hI.out.2⟩⟩
            case measure => simp [intOf] <;> omega
      · have hcfo : cf l 2 = 0 := cf_out (by rw [hll.out]; omega)
        obtain ⟨m, hm⟩ : ∃ m : Nat, cf l 2 = m := ⟨_, rfl⟩
        have hm' := Lib.hid hcfo
        clear hm hcfo
        go_wp2_with fail
        go_loopw [6, 9] (fun want j wr2 => j = .int .i64 0 ∧ want = .string (jB (opsL (cf l) 2)) ∧ Hid (RC w1.heap.size (cf l 0 : Int) (cf l 1 : Int) 0 0 (-1) wr2 ∧ Below w1.heap.size w1 wr2)) (fun _ _ _ => 0)
        case atStart => exact ⟨rfl, rfl, Lib.hid ⟨RC.set2 hrc'.out, hbw'.out.setCell (Nat.le_refl _) _⟩⟩
        case round =>
          obtain ⟨rfl, rfl, hI⟩ := hrel
          go_wp2_with fail
          go_roundw
          case rel => exact ⟨3, 3, by omega, rfl, rfl, Lib.hid ⟨by rw [show opsL (cf l) 3 = opsL (cf l) 2 ++ List.replicate (cf l 2) (opB 2) from rfl, hm'.out]; simp, by show RC w1.heap.size (cf l 0 : Int) (cf l 1 : Int) (cf l 2 : Int) 0 (-1) _; rw [hm'.out]; exact hI.out.1, hI.out.2⟩⟩
          case measure => simp [intOf]
    · obtain rfl : z = 3 := by omega
      clear hz
      obtain ⟨rfl, hrc, hbw⟩ := hrl.out
      have hrc : RC w1.heap.size (cf l 0 : Int) (cf l 1 : Int) (cf l 2 : Int) 0 (-1) wr := hrc
      have hfz : wr.frozen? ⟨w1.heap.size, 3, none⟩ = false := hrc.2.2.2.2.2.1 3
      have hce : wr.cell? ⟨w1.heap.size, 3, none⟩ = some (.int .i64 0) := hrc.2.2.2.1
      have hrc' := Lib.hid hrc
      have hws := hbw.size
      have hrz : w1.heap.size < wr.heap.size := hrc.2.2.2.2.2.2
      have hbw' := Lib.hid hbw
      have hjl := Lib.hid fun (j : Nat) (hj : j ≤ 3) => jB_len (cf l) (cf_le l) 3 j (by omega) hj
      have hm3 := cf_le l 3
      have hD := Lib.hid fun (W : World) => (show Calls Tryd.prog 22 #[.int .i64 3] W fun e w' => e = .returned (.string ⟨#[51]⟩) ∧ Below W.heap.size W w' from dig_any 3 (by omega) W)
      clear hrc hbw hrl
      by_cases hin : (3 : Int) < (ln : Int)
      · have hcfi : Hid ((cf l 3 : Int) = l.getD 3 0 % 4) := Lib.hid (cf_in (by rw [hll.out]; omega))
        obtain ⟨b, off, rfl, hbl, hcx⟩ := hia.out 3 (by omega)
        have hcx2 : wr.cell? ⟨b, off + 3, none⟩ = some (.int .i64 (l.getD 3 0)) := carry (belT hB1.out hbw'.out) hbl hcx
        have hand := and3 (l.getD 3 0)
        obtain ⟨m, hm⟩ : ∃ m : Nat, cf l 3 = m := ⟨_, rfl⟩
        have hmm : l.getD 3 0 % 4 = (m : Int) := by rw [← hcfi.out, hm]
        rw [hmm] at hand
        generalize l.getD 3 0 = xv at hcx2 hand
        rw [hm] at hm3
        have hm' := Lib.hid hm
        clear hmm hm hcfi hcx
        go_wp2_with fail
        go_loopw [6, 9] (fun want j wr2 => ∃ jn : Nat, jn ≤ m ∧ j = .int .i64 jn ∧ want = .string (jB (opsL (cf l) 3 ++ List.replicate jn (opB 3))) ∧ Hid (RC w1.heap.size (cf l 0 : Int) (cf l 1 : Int) (cf l 2 : Int) (m : Int) (-1) wr2 ∧ Below w1.heap.size w1 wr2)) (fun _ j _ => m - (intOf j).toNat)
        case atStart => exact ⟨0, by omega, rfl, by simp, Lib.hid ⟨RC.set3 hrc'.out, hbw'.out.setCell (Nat.le_refl _) _⟩⟩
        case round =>
          obtain ⟨jn, hjm, rfl, rfl, hI⟩ := hrel
          by_cases hlt : jn < m
          · obtain ⟨L, hL⟩ : ∃ L, opsL (cf l) 3 ++ List.replicate jn (opB 3) = L := ⟨_, rfl⟩
            have hL2 : Hid (opsL (cf l) 3 ++ List.replicate (jn + 1) (opB 3) = L ++ [opB 3]) := Lib.hid (by rw [← hL, rep_snoc])
            have hsz := hjl.out jn (by omega)
            have hall := ops_all (cf l) 3 jn
            rw [hL] at hsz hall ⊢
            by_cases hLn : L = []
            · subst hLn
              rw [jB_nil]
              have t1 : ((⟨#[]⟩ : ByteArray).toList == []) = true := by rw [Lib.toList_data]; rfl
              have t2 : (⟨#[]⟩ : ByteArray).toList.isEmpty = true := by rw [Lib.toList_data]; rfl
              clear hL hsz hall
              go_wp2_with fail
              refine (hD.out _).mono ?_
              rintro e w9 ⟨rfl, hb9⟩
              have hI9 := Lib.hid (show RC w1.heap.size (cf l 0 : Int) (cf l 1 : Int) (cf l 2 : Int) (m : Int) (-1) w9 ∧ Below w1.heap.size w1 w9 from ⟨hI.out.1.below hb9, hI.out.2.trans (hb9.mono hI.out.2.size)⟩)
              clear hb9
              go_wp2_with fail
              go_roundw
              case rel => exact ⟨jn + 1, by omega, by go_num, by rw [hL2.out, List.nil_append, jB_one]; rfl, hI9⟩
              case measure => simp [intOf] <;> omega
            · obtain ⟨t1, t2⟩ := jB_pos hLn hall
              have hsn := jB_snoc hLn (opB 3)
              obtain ⟨x, hx⟩ : ∃ x, jB L = x := ⟨_, rfl⟩
              rw [hx] at t1 t2 hsn hsz ⊢
              have hsn' := Lib.hid hsn
              clear hL hall hsn hx
              go_wp2_with fail
              refine (hD.out _).mono ?_
              rintro e w9 ⟨rfl, hb9⟩
              have hI9 := Lib.hid (show RC w1.heap.size (cf l 0 : Int) (cf l 1 : Int) (cf l 2 : Int) (m : Int) (-1) w9 ∧ Below w1.heap.size w1 w9 from ⟨hI.out.1.below hb9, hI.out.2.trans (hb9.mono hI.out.2.size)⟩)
              clear hb9
              go_wp2_with fail
              go_roundw
              case rel => exact ⟨jn + 1, by omega, by go_num, by rw [hL2.out, hsn'.out]; congr 1; apply ba_ext; simp [opB], hI9⟩
              case measure => simp [intOf] <;> omega
          · obtain rfl : jn = m := by omega
            go_wp2_with fail
            go_roundw
            case rel => exact ⟨4, 4, by omega, rfl, rfl, Lib.hid ⟨by rw [show opsL (cf l) 4 = opsL (cf l) 3 ++ List.replicate (cf l 3) (opB 3) from rfl, hm'.out], by have := hI.out.1; rw [← hm'.out] at this; exact this, hI.out.2⟩⟩
            case measure => simp [intOf] <;> omega
      · have hcfo : cf l 3 = 0 := cf_out (by rw [hll.out]; omega)
        obtain ⟨m, hm⟩ : ∃ m : Nat, cf l 3 = m := ⟨_, rfl⟩
        have hm' := Lib.hid hcfo
        clear hm hcfo
        go_wp2_with fail
        go_loopw [6, 9] (fun want j wr2 => j = .int .i64 0 ∧ want = .string (jB (opsL (cf l) 3)) ∧ Hid (RC w1.heap.size (cf l 0 : Int) (cf l 1 : Int) (cf l 2 : Int) 0 (-1) wr2 ∧ Below w1.heap.size w1 wr2)) (fun _ _ _ => 0)
        case atStart => exact ⟨rfl, rfl, Lib.hid ⟨RC.set3 hrc'.out, hbw'.out.setCell (Nat.le_refl _) _⟩⟩
        case round =>
          obtain ⟨rfl, rfl, hI⟩ := hrel
          go_wp2_with fail
          go_roundw
          case rel => exact ⟨4, 4, by omega, rfl, rfl, Lib.hid ⟨by rw [show opsL (cf l) 4 = opsL (cf l) 3 ++ List.replicate (cf l 3) (opB 3) from rfl, hm'.out]; simp, by show RC w1.heap.size (cf l 0 : Int) (cf l 1 : Int) (cf l 2 : Int) (cf l 3 : Int) (-1) _; rw [hm'.out]; exact hI.out.1, hI.out.2⟩⟩
          case measure => simp [intOf]
    · obtain rfl : z = 4 := by omega
      clear hz
      obtain ⟨rfl, hrc, hbw⟩ := hrl.out
      have hrc : RC w1.heap.size (cf l 0 : Int) (cf l 1 : Int) (cf l 2 : Int) (cf l 3 : Int) (-1) wr := hrc
      clear hrl
      obtain ⟨q0, q1, q2, q3, q4, q5, q6⟩ := hrc
      have hz4 := q5 4
      have u0 := cf_le l 0; have u1 := cf_le l 1; have u2 := cf_le l 2; have u3 := cf_le l 3
      have hsz := jB_len (cf l) (cf_le l) 4 0 (by omega) (by omega)
      rw [List.replicate_zero, List.append_nil] at hsz
      have hre := fun (t : Int) => (show rowB (cf l 0 : Int) (cf l 1 : Int) (cf l 2 : Int) (cf l 3 : Int) t = ⟨#[60]⟩ ++ jB (opsL (cf l) 4) ++ (if 0 ≤ t then ⟨#[124, 101, 48]⟩ else ⟨#[]⟩) ++ ⟨#[62]⟩ by unfold rowB; rw [row_eq _ _ _ _ l rfl rfl rfl rfl]; rfl)
      have hre' := Lib.hid hre
      have hmay := Lib.hid fun (t : Int) (h1 : -1 ≤ t) (h2 : t < 4096) => (show mayR (cf l 0 : Int) (cf l 1 : Int) (cf l 2 : Int) (cf l 3 : Int) t = true from decide_eq_true (by omega))
      obtain ⟨x, hx⟩ : ∃ x, jB (opsL (cf l) 4) = x := ⟨_, rfl⟩
      rw [hx] at hsz hre' ⊢
      clear hre hx q5
      obtain ⟨c0, hc0⟩ : ∃ c, cf l 0 = c := ⟨_, rfl⟩
      obtain ⟨c1, hc1⟩ : ∃ c, cf l 1 = c := ⟨_, rfl⟩
      obtain ⟨c2, hc2⟩ : ∃ c, cf l 2 = c := ⟨_, rfl⟩
      obtain ⟨c3, hc3⟩ : ∃ c, cf l 3 = c := ⟨_, rfl⟩
      rw [hc0, hc1, hc2, hc3] at hre' hmay
      rw [hc0] at q0 u0; rw [hc1] at q1 u1; rw [hc2] at q2 u2; rw [hc3] at q3 u3
      clear hc0 hc1 hc2 hc3
      have hB4 := Lib.hid (belT hB1.out hbw)
      have hws := hbw.size
      by_cases htl : tail % 2 = 1
      · obtain ⟨tl, htl2⟩ := Int.eq_ofNat_of_zero_le (show 0 ≤ tail % 1024 by omega)
        have hand1 : bits .and .i64 tail 1 = 1 := by rw [and1]; exact htl
        have hand2 : bits .and .i64 tail 1023 = (tl : Int) := by rw [and1023, htl2]
        have htb : tl < 1024 := by omega
        obtain ⟨y, hy⟩ : ∃ y, (⟨#[60]⟩ : ByteArray) ++ (x ++ ⟨#[124, 101, 48]⟩) ++ ⟨#[62]⟩ = y := ⟨_, rfl⟩
        have hv : Hid (rtV (c0 : Int) c1 c2 c3 (tl : Int) = y ∧ rtE (c0 : Int) c1 c2 c3 (tl : Int) = 0) := Lib.hid ⟨by unfold rtV; rw [hmay.out _ (by omega) (by omega), if_pos rfl, hre'.out, if_pos (by omega), ← hy]; apply ba_ext; simp, by unfold rtE; rw [hmay.out _ (by omega) (by omega)]; rfl⟩
        clear htl htl2 hmay hre'
        go_wp2_with fail
        refine (rowText_any _ _ _ _ _ _).mono ?_
        rintro e w5 ⟨rfl, hb5⟩
        rw [hv.out.1, hv.out.2]
        have hB5 := Lib.hid (show Below w.heap.size w w5 from belT (hB4.out.setCell (show w.heap.size ≤ w1.heap.size by omega) _) hb5)
        clear hb5
        go_wp2_with ((go_at_call 16; refine (num_any _ _ (by omega) (by omega)).mono ?_; rintro e w' ⟨rfl, rfl⟩))
        go_ret
        exact ⟨rfl, hB5.out⟩
      · have hand1 : (bits .and .i64 tail 1 == 1) = false := by rw [and1]; exact beq_eq_false_iff_ne.2 htl
        obtain ⟨y, hy⟩ : ∃ y, (⟨#[60]⟩ : ByteArray) ++ x ++ ⟨#[62]⟩ = y := ⟨_, rfl⟩
        have hv : Hid (rtV (c0 : Int) c1 c2 c3 (-1) = y ∧ rtE (c0 : Int) c1 c2 c3 (-1) = 0) := Lib.hid ⟨by unfold rtV; rw [hmay.out _ (by omega) (by omega), if_pos rfl, hre'.out, if_neg (by omega), ← hy]; apply ba_ext; simp, by unfold rtE; rw [hmay.out _ (by omega) (by omega)]; rfl⟩
        clear htl hmay hre'
        go_wp2_with fail
        refine (rowText_any _ _ _ _ _ _).mono ?_
        rintro e w5 ⟨rfl, hb5⟩
        rw [hv.out.1, hv.out.2]
        have hB5 := Lib.hid (show Below w.heap.size w w5 from belT hB4.out hb5)
        clear hb5
        go_wp2_with ((go_at_call 16; refine (num_any _ _ (by omega) (by omega)).mono ?_; rintro e w' ⟨rfl, rfl⟩))
        go_ret
        exact ⟨rfl, hB5.out⟩

theorem walk {H : Type} {enc : TypeId × Value → H} (ad : Option Addr) (ln cp : Nat) (tail : Int) (w : World) (f : ∃ fuel y, DataW.trod enc Tryd.prog w 0 (fun _ => true) true fuel 50 [.slice ad ln cp] = some y ∧ ∀ x ∈ DataW.weights Tryd.prog 50 y.1, x ≤ reachBytes) (hb : -9223372036854775808 ≤ tail ∧ tail ≤ 9223372036854775807) :
    Calls Tryd.prog 7 #[.slice ad ln cp, .int .i64 tail] w fun e w' => e = .returned (.bool true) ∧ Below w.heap.size w w' := by
  obtain ⟨fuel, y, hf, hwt⟩ := f
  obtain ⟨hl, l, hll, ha⟩ := ints_open Tryd.underlying50 Tryd.underlying3 (by kernel_rfl) hf
  refine walk_in ad ln cp l tail w (Lib.hid hll) (by omega) (Lib.hid fun i hi => ?_)
  rcases ha with h0 | ⟨b, off, rfl, hs, hbl⟩
  · omega
  · exact ⟨b, off, rfl, hbl, hs i (by omega)⟩
theorem own : ownKnob Tryd.prog.godebug = none := by kernel_rfl
theorem laidOut : laidOutB Tryd.prog = true := by kernel_rfl
set_option maxRecDepth 100000 in
theorem contract (H : Type) (enc : TypeId × Value → H) (W : World) (base : Nat) (args : Array Value) (ds gs : List (DataW H)) (before : List MemPlace)
    (hval0 : ∀ (j : Nat) t v, Tryd.f7.params[j]? = some t → args[j]? = some v → Value.okWide Tryd.prog W .any base t v)
    (hW : DataW.Whole enc Tryd.prog Tryd.f7.params.toList Rows.rowTextsSpec.vars false W args.toList ds gs before)
    (hsz0 : (DataW.weightsEach Tryd.prog (Tryd.f7.params.toList ++ Rows.rowTextsSpec.plain.varTypes Tryd.prog) (ds ++ gs)).all (· ≤ reachBytes) = true)
    : Calls Tryd.prog 7 args W fun e W' => ∃ v, e = .returned v ∧ Rows.rowTextsSpec.post enc Tryd.prog Tryd.f7 false true false false W args v W' := by
  have hval : ∀ (j : Nat) t v, Tryd.f7.params[j]? = some t → args[j]? = some v → Value.okWide Tryd.prog W .any base t v := hval0
  have hsz : (DataW.weightsEach Tryd.prog (Tryd.f7.params.toList ++ Rows.rowTextsSpec.plain.varTypes Tryd.prog) (ds ++ gs)).all (· ≤ reachBytes) = true := hsz0
  have hW' := hW
  obtain ⟨p, q, hA0, hV, rfl, hfz, hnd⟩ := hW
  have hA : DataW.TrodAll enc Tryd.prog W 0 (fun _ => true) true Tryd.f7.params.toList args.toList ds p := hA0
  rw [Tryd.params7] at hA hval hsz
  obtain ⟨v0, vs0, d0, ds0, p0, q0, hargs, rfl, rfl, h0, r0⟩ := trodAll_cons hA
  obtain ⟨v1, vs1, d1, ds1, p1, q1, rfl, rfl, rfl, h1, r1⟩ := trodAll_cons r0
  obtain ⟨rfl, rfl, rfl⟩ := trodAll_nil r1
  obtain rfl : args = #[v0, v1] := by cases args; simp_all
  obtain ⟨rfl, rfl⟩ := trodVars_none hV
  have k0 := h0
  have lt0 : ∀ x ∈ p0, x.block < W.heap.size := by obtain ⟨m, hm⟩ := k0; exact DataW.trod_lt m _ _ _ hm
  obtain ⟨a0, n0, c0, rfl⟩ := okWide_slice Tryd.underlying50 (hval 0 50 v0 rfl rfl)
  have f0 : ∃ fuel y, DataW.trod enc Tryd.prog W 0 (fun _ => true) true fuel 50 [.slice a0 n0 c0] = some y ∧ ∀ x ∈ DataW.weights Tryd.prog 50 y.1, x ≤ reachBytes := by obtain ⟨fu, hf⟩ := h0; exact ⟨fu, _, by simpa [Value.cells] using hf, sized_of hsz (j := 0) (t := 50) rfl rfl⟩
  have k1 := h1
  have lt1 : ∀ x ∈ p1, x.block < W.heap.size := by obtain ⟨m, hm⟩ := k1; exact DataW.trod_lt m _ _ _ hm
  obtain ⟨a1, rfl, rfl, rfl, m1⟩ := open_int Tryd.underlying3 (hval 1 3 v1 rfl rfl) h1
  clear hA0 hval0
  refine (walk a0 n0 c0 a1 W f0 (bd_i64 m1)).mono fun e W' ⟨he, bel⟩ => ?_
  subst he
  exact ⟨_, rfl, _, _, _, [], _, [], hW', trodAll_mk1 (shut_bool Tryd.underlying4 _), (trodAll_cons_mk (Below.trod laidOut (by kernel_rfl) (of_decide_eq_true (by kernel_rfl)) k0 bel lt0) (trodAll_cons_mk (Below.trod laidOut (by kernel_rfl) (of_decide_eq_true (by kernel_rfl)) k1 bel lt1) trodAll_mk0)), rfl, bel.frame _, fun h => by cases h⟩
noncomputable def laidWorld (os : Os) : World := { World.holding Tryd.prog os ⟨#[], #[], []⟩ with heap := layAll Tryd.prog Rows.rowTextsRow.laid (World.holding Tryd.prog os ⟨#[], #[], []⟩).heap }
theorem laid_met (os : Os) : laidMet Tryd.prog Rows.rowTextsRow.laid ((laidWorld os).forCall (fun _ _ => 0) ⟨#[], #[.slice none 0 0, .int .i64 0], []⟩).memory := laidMet_of_run' 8 (by kernel_rfl) (by kernel_rfl)
theorem reads (os : Os) {H : Type} (enc : TypeId × Value → H) : ∃ places, DataW.whole enc Tryd.prog ((laidWorld os).forCall (fun _ _ => 0) ⟨#[], #[.slice none 0 0, .int .i64 0], []⟩).memory Tryd.f7.params.toList Rows.rowTextsSpec.vars false #[(.slice none 0 0 : Value), (.int .i64 0 : Value)].toList 8 = some ([.nil, .lit (.int .i64 0)], [], places) := ⟨[], by kernel_rfl⟩
set_option maxRecDepth 100000 in
theorem lifted (os : Os) (started : os.Started) (H : Type) (enc : TypeId × Value → H) (F : Stop.Interp) :
    ReturnsInHanded {} Tryd.checked os 7 .any ((OpenSpec.ofChange Rows.rowTextsSpec).preRow enc Tryd.prog Tryd.f7 Rows.rowTextsRow.domain false Rows.rowTextsRow.laid) (((OpenSpec.ofChange Rows.rowTextsSpec).at F).post enc Tryd.prog Tryd.f7 false true false false) := by
  obtain ⟨places, hx⟩ := reads os enc
  refine returnsInHanded_of_row (C := Tryd.checked) (s := (OpenSpec.ofChange Rows.rowTextsSpec)) own started (by kernel_rfl) Tryd.func7
    (witness_row_at (enc := enc) (C := Tryd.checked) false (laidWorld os) #[.slice none 0 0, .int .i64 0] rfl (by kernel_rfl) (by kernel_rfl) (by kernel_rfl)
      (OpenSpec.preRow_of_cond 8 hx (by kernel_rfl) (fun k hk => by cases hk) (by kernel_rfl) (laid_met os))) ?_
  intro W base args ds gs before hval hW _ hcnd hsz hL _ _
  exact contract H enc W base args ds gs before hval hW hsz  
theorem said : Rows.RowTextsSaid :=
  OpenClaim.holds_of_cond 7 Tryd.f7 rfl rfl rfl rfl rfl rfl rfl ⟨rfl, rfl, rfl, rfl, rfl⟩ rfl rfl rfl rfl rfl (by kernel_rfl) Tryd.func7 (by kernel_rfl)
    (of_decide_eq_true (by kernel_rfl)) (by unfold Func.isWrapper; first | (rw [if_pos (by decide +kernel)]; kernel_rfl) | (rw [if_neg (by decide +kernel)]; exact ⟨rfl, rfl⟩))
    (fun os started H enc _ F => by rw [OpenClaim.pre_eq_preRow]; exact lifted os started H enc F)
theorem plain (f : FuncId) (fn : Func) (hf : Tryd.pinned.checked.prog.funcNamed "trammel/trammellaw8.RowTexts" = some f) (hfn : Tryd.pinned.checked.prog.funcs[f]? = some fn) :
    false = Tryd.pinned.checked.prog.looks [] ∧ ∀ (j : Nat) t, fn.params[j]? = some t → Tryd.pinned.checked.prog.wantsStandIn t = false := by
  obtain rfl : f = 7 := Option.some.inj ((show Tryd.prog.funcNamed "trammel/trammellaw8.RowTexts" = some 7 by kernel_rfl).symm.trans hf) |>.symm
  obtain rfl : fn = Tryd.f7 := (Option.some.inj (Tryd.func7.symm.trans hfn)).symm
  refine ⟨by kernel_rfl, fun j t ht => ?_⟩
  rw [Tryd.params7] at ht
  have hm := Array.mem_of_getElem? ht
  have hm2 : t ∈ ([50, 3] : List Nat) := by simpa using hm
  simp only [List.mem_cons, List.not_mem_nil, or_false] at hm2
  rcases hm2 with rfl | rfl
  · exact (show Tryd.prog.wantsStandIn 50 = false by kernel_rfl)
  · exact (show Tryd.prog.wantsStandIn 3 = false by kernel_rfl)
theorem proved : Rows.RowTextsCardSaid :=
  Claim7.holds_tied_plain_at .later [] _ _ _ _ said (fun _ h => by cases h) (by kernel_rfl) (fun _ h => by cases h) rowTexts_row_tie rfl ⟨rfl, rfl⟩ (by kernel_rfl) rfl plain (by kernel_rfl)
end Go.Proofs.YtlbopoidjnaokaaDoor.rowTexts
