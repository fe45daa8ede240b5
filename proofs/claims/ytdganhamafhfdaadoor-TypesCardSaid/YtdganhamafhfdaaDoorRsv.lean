/- RtK, Ntx, Aw7, MkF, SpT in one text (a claim holds at most sixty files): never beside them. -/
import Derived.Test.YtdganhamafhfdaaDoorVrD
import Derived.Test.YtdganhamafhfdaaDoorRwK
import Derived.Test.YtdganhamafhfdaaDoorTxA
import Derived.Test.YtdganhamafhfdaaDoorTyS
import Derived.Test.YtdganhamafhfdaaDoorEqA
import Derived.Test.YtdganhamafhfdaaDoorVrC
import Derived.Test.YtdganhamafhfdaaDoorRcA
import Derived.Test.YtdganhamafhfdaaDoorRwG
import Derived.Test.YtdganhamafhfdaaDoorSbG
import Derived.Test.YtdganhamafhfdaaDoorInO
/- The reference's text of a row within a type. -/
namespace Go.Proofs.YtdganhamafhfdaaDoor
open Go.RowKit
set_option linter.unusedVariables false
set_option linter.unusedSimpArgs false

theorem posI_le {l : List Int} {v : Int} : posI l v ≤ l.length := by
  cases h : hasI l v
  · rw [(posI_new h).1]; exact Nat.le_refl _
  · have e : addI l v = l := by unfold addI; rw [h]; rfl
    unfold posI; rw [e]; exact List.findIdx_le_length
def jnB (l : List ByteArray) : ByteArray := ⟨(Lib.join (l.map (·.data.toList)) [44]).toArray⟩
theorem jnB_nil : jnB [] = ⟨#[]⟩ := by unfold jnB; rw [List.map_nil, Lib.join_nil]
theorem jnB_one (x : ByteArray) : jnB [x] = x := by
  apply ba_ext; unfold jnB; rw [List.map_cons, List.map_nil, Lib.join_cons]; simp [Lib.joinTail]
theorem jnB_snoc {l : List ByteArray} (h : l ≠ []) (x : ByteArray) : jnB (l ++ [x]) = jnB l ++ ⟨#[44]⟩ ++ x := by
  cases l with
  | nil => exact absurd rfl h
  | cons y r =>
    apply ba_ext
    unfold jnB
    rw [List.cons_append, List.map_cons, Lib.join_cons, List.map_cons, Lib.join_cons, List.map_append]
    simp [Lib.joinTail]
theorem jnB_len (n : Nat → Nat) (hn : ∀ i, n i ≤ 32) (k j : Nat) (hk : k ≤ 4) (hj : j ≤ 32) : (jnB (opsL n k ++ List.replicate j (opB k))).size ≤ 480 := by
  have h1 : (jnB (opsL n k ++ List.replicate j (opB k))).size = (Lib.join ((opsL n k ++ List.replicate j (opB k)).map (·.data.toList)) [44]).length := rfl
  have h2 := join_len ((opsL n k ++ List.replicate j (opB k)).map (·.data.toList)) (by
    intro x hx
    obtain ⟨y, hy, rfl⟩ := List.mem_map.1 hx
    rcases List.mem_append.1 hy with h | h
    · have := opsL_size n k y h; rw [← this]; simp
    · rw [List.eq_of_mem_replicate h]; rfl)
  have h3 := opsL_len n 32 hn k
  rw [h1]
  rw [List.length_map, List.length_append, List.length_replicate] at h2
  omega
theorem jnB_pos {l : List ByteArray} (h : l ≠ []) (hs : ∀ x ∈ l, x.size = 2) : (jnB l).toList.isEmpty = false ∧ ((jnB l).toList == []) = false := by
  cases l with
  | nil => exact absurd rfl h
  | cons y r =>
    have hy := hs y (List.mem_cons_self ..)
    have : ∃ c t, (jnB (y :: r)).toList = c :: t := by
      rw [Lib.toList_data]
      unfold jnB
      rw [List.map_cons, Lib.join_cons]
      cases hd : y.data.toList with
      | nil =>
        have hlen : y.data.toList.length = 2 := by rw [← hy]; simp
        rw [hd] at hlen; simp at hlen
      | cons c t => exact ⟨c, _, rfl⟩
    obtain ⟨c, t, e⟩ := this
    rw [e]; exact ⟨rfl, rfl⟩
theorem opsAll (n : Nat → Nat) (k j : Nat) : ∀ x ∈ opsL n k ++ List.replicate j (opB k), x.size = 2 := by
  intro x hx
  rcases List.mem_append.1 hx with h | h
  · exact opsL_size n k x h
  · rw [List.eq_of_mem_replicate h]; rfl
theorem cnt_le {a b c d t : Int} (h : mayR a b c d t = true) (i : Nat) : cnt4 a b c d i ≤ 32 := by
  have := of_decide_eq_true h
  unfold cnt4; (repeat' split) <;> omega
theorem digit_any (k : Nat) (hk : k < 10) (W : World) : Calls Tryd.prog 80 #[.int .i64 (k : Int)] W fun e w' => e = .returned (.string ⟨#[UInt8.ofNat (48 + k)]⟩) ∧ Below W.heap.size W w' :=
  (dec_any (k : Int) W (by omega) (by omega)).mono fun e w' h => by
    unfold DecPost at h
    rw [show Lib.itoa (k : Int) = [UInt8.ofNat (48 + k)] from by unfold Lib.itoa; rw [if_neg (by omega)]; exact ddi k hk] at h
    exact h
set_option maxRecDepth 100000 in
set_option maxHeartbeats 4000000 in
theorem nrowText_any (g B : Nat) (a b c d t : Int) (w : World) (v1 v2 : Value) (l1 l2 : List Int) (hm : mayR a b c d t = true) (h : Hid (TwoI B g 0 g 1 w v1 v2 l1 l2)) (hl1 : l1.length ≤ 10000) (hl2 : l2.length ≤ 10000) :
    Calls Tryd.prog 82 #[.pointer (some ⟨g, 0, none⟩), .agg #[.int .i64 a, .int .i64 b, .int .i64 c, .int .i64 d, .int .i64 t]] w fun e w' => e = .returned (.string (rowK a b c d t (Lib.itoa (posI l2 t : Nat)))) ∧ ∃ v1' v2', TwoI B g 0 g 1 w' v1' v2' l1 (addT l2 t) ∧ GoV g g w w' v1 v2 v1' v2' := by
  have hcl := Lib.hid (cnt_le hm)
  have hmm := of_decide_eq_true hm
  obtain ⟨W1, hW1⟩ : ∃ W, w.alloc (.cells #[.int .i64 a, .int .i64 b, .int .i64 c, .int .i64 d, .int .i64 t] 27) = W := ⟨_, rfl⟩
  have hrow : Hid (∀ k : Nat, k < 4 → W1.cell? ⟨w.heap.size, k, none⟩ = some (.int .i64 (cnt4 a b c d k : Int))) := Lib.hid (by
    intro k hk
    rw [← hW1]
    have hk4 : k = 0 ∨ k = 1 ∨ k = 2 ∨ k = 3 := by omega
    rcases hk4 with rfl | rfl | rfl | rfl
    · rw [show ((cnt4 a b c d 0 : Nat) : Int) = a by unfold cnt4; simp; omega]; simp
    · rw [show ((cnt4 a b c d 1 : Nat) : Int) = b by unfold cnt4; simp; omega]; simp
    · rw [show ((cnt4 a b c d 2 : Nat) : Int) = c by unfold cnt4; simp; omega]; simp
    · rw [show ((cnt4 a b c d 3 : Nat) : Int) = d by unfold cnt4; simp; omega]; simp)
  have hrt : Hid (W1.cell? ⟨w.heap.size, 4, none⟩ = some (.int .i64 t)) := Lib.hid (by rw [← hW1]; simp)
  have hW1b : Hid (Below w.heap.size w W1) := Lib.hid (by rw [← hW1]; (repeat' (first | with_reducible exact Below.refl _ _ | with_reducible assumption | with_reducible apply Below.setCell | with_reducible apply Below.alloc | with_reducible apply Below.drew | with_reducible apply below_drewN | with_reducible exact Nat.le_refl _ | (simp; done) | (simp; omega) | omega | exact Nat.le_refl _)))
  have hW1s : w.heap.size < W1.heap.size := by rw [← hW1]; simp
  have ht0 : -1 ≤ t := by omega
  have hpl := posI_le (l := l2) (v := t)
  have hnr := Lib.hid fun (W : World) (hW : TwoI B g 0 g 1 W v1 v2 l1 l2) => nrow_any g B t W v1 v2 l1 l2 (Lib.hid hW) (by omega) (by omega)
  have hdc := Lib.hid fun (W : World) => (show Calls Tryd.prog 80 #[.int .i64 (posI l2 t : Nat)] W fun e w' => e = .returned (.string ⟨(Lib.itoa (posI l2 t : Nat)).toArray⟩) ∧ Below W.heap.size W w' from (dec_any (posI l2 t : Nat) W (by omega) (by omega)).mono fun e w' h => by unfold DecPost at h; exact h)
  have hit := itoa_len (posI l2 t : Nat) (by omega) (by omega)
  have hadd : Hid (addT l2 t = if 0 ≤ t then addI l2 t else l2) := Lib.hid (by unfold addT; by_cases ht : t < 0; rw [if_pos ht, if_neg (by omega)]; rw [if_neg ht, if_pos (by omega)])
  have hrB : Hid (rowK a b c d t (Lib.itoa (posI l2 t : Nat)) = ⟨#[60]⟩ ++ jnB (opsL (cnt4 a b c d) 4) ++ (if 0 ≤ t then ⟨#[124, 101]⟩ ++ ⟨(Lib.itoa (posI l2 t : Nat)).toArray⟩ else ⟨#[]⟩) ++ ⟨#[62]⟩) := Lib.hid rfl
  generalize rowK a b c d t (Lib.itoa (posI l2 t : Nat)) = RB at hrB
  generalize Lib.itoa (posI l2 t : Nat) = IT at hrB hdc hit
  generalize posI l2 t = PS at hnr hdc hpl
  generalize addI l2 t = AL at hnr hadd
  generalize addT l2 t = AT at hadd
  clear hm hmm
  go_enter Tryd.func82, Tryd.ntmps82
  go_wp2_with fail
  (try rw [hW1])
  clear hW1
  generalize cnt4 a b c d = n at hcl hrow hrB
  go_loopw [5, 6] (fun s i wr => ∃ k : Nat, k ≤ 4 ∧ i = .int .i64 k ∧ s = .string (jnB (opsL n k)) ∧ Below W1.heap.size W1 wr) (fun _ i _ => 4 - (intOf i).toNat)
  case atStart => exact ⟨0, by omega, rfl, by rw [show opsL n 0 = [] from rfl, jnB_nil], Below.refl _ _⟩
  case round =>
    obtain ⟨k, hk, rfl, rfl, hbw⟩ := hrel
    have hws := hbw.size
    by_cases hk4 : k < 4
    · have hcell := Lib.hid (hrow.out k hk4)
      have hnk := hcl.out k
      have hjl := Lib.hid fun (j : Nat) (hj : j ≤ 32) => jnB_len n hcl.out k j hk hj
      have hD := Lib.hid fun (W : World) => digit_any k (by omega) W
      have hop : Hid (∀ x : ByteArray, x ++ ⟨#[111]⟩ ++ ⟨#[UInt8.ofNat (48 + k)]⟩ = x ++ opB k) := Lib.hid fun x => by apply ba_ext; simp [opB]
      have hnx : Hid (opsL n (k + 1) = opsL n k ++ List.replicate (n k) (opB k)) := Lib.hid rfl
      have hsn : Hid (∀ j, opsL n k ++ List.replicate (j + 1) (opB k) = (opsL n k ++ List.replicate j (opB k)) ++ [opB k]) := Lib.hid fun j => (rep_snoc _ _ _).symm
      have hall := Lib.hid (opsAll n k)
      have hjz : Hid (opsL n k = opsL n k ++ List.replicate 0 (opB k)) := Lib.hid (by simp)
      obtain ⟨m, hm⟩ : ∃ m, n k = m := ⟨_, rfl⟩
      rw [hm] at hcell hnk hnx
      obtain ⟨dg, hdg⟩ : ∃ x, (⟨#[UInt8.ofNat (48 + k)]⟩ : ByteArray) = x := ⟨_, rfl⟩
      have hds : dg.size = 1 := by rw [← hdg]; rfl
      rw [hdg] at hD hop
      have hkk : (k : Int) < 4 := by omega
      have hk0 : (0 : Int) ≤ (k : Int) := by omega
      clear hm hdg
      go_wp2_with fail
      go_loopw [5, 7] (fun s j wr2 => ∃ jn : Nat, jn ≤ m ∧ j = .int .i64 jn ∧ s = .string (jnB (opsL n k ++ List.replicate jn (opB k))) ∧ Below W1.heap.size W1 wr2) (fun _ j _ => m - (intOf j).toNat)
      case atStart => exact ⟨0, by omega, rfl, by rw [← hjz.out], hbw⟩
      case round =>
        obtain ⟨jn, hjm, rfl, rfl, hb2⟩ := hrel
        have hcc := carry hb2 hW1s hcell.out
        by_cases hlt : jn < m
        · have hsz := hjl.out jn (by omega)
          have hal := hall.out jn
          have hs1 := hsn.out jn
          generalize opsL n k ++ List.replicate jn (opB k) = L at hsz hal hs1 ⊢
          have hs1' := Lib.hid hs1
          by_cases hLn : L = []
          · subst hLn
            rw [jnB_nil]
            have t1 : ((⟨#[]⟩ : ByteArray).toList == []) = true := by rw [Lib.toList_data]; rfl
            have t2 : (⟨#[]⟩ : ByteArray).toList.isEmpty = true := by rw [Lib.toList_data]; rfl
            clear hs1 hsz hal
            go_wp2_with fail
            refine (hD.out _).mono ?_
            rintro e w9 ⟨rfl, hb9⟩
            have hb3 : Below W1.heap.size W1 w9 := hb2.trans (hb9.mono hb2.size)
            clear hb9
            go_wp2_with fail
            go_roundw
            case rel => exact ⟨jn + 1, by omega, by go_num, by rw [hs1'.out, List.nil_append, jnB_one]; exact congrArg Value.string ((hop.out ⟨#[]⟩).trans (by apply ba_ext; simp)), hb3⟩
            case measure => simp [intOf]; omega
          · obtain ⟨t1, t2⟩ := jnB_pos hLn hal
            have hsn2 := jnB_snoc hLn (opB k)
            rw [← hs1'.out] at hsn2
            have hsn' := Lib.hid hsn2
            generalize jnB L = x at t1 t2 hsz hsn' ⊢
            clear hs1 hal hsn2
            go_wp2_with fail
            refine (hD.out _).mono ?_
            rintro e w9 ⟨rfl, hb9⟩
            have hb3 : Below W1.heap.size W1 w9 := hb2.trans (hb9.mono hb2.size)
            clear hb9
            go_wp2_with fail
            go_roundw
            case rel => exact ⟨jn + 1, by omega, by go_num, by rw [hsn'.out]; congr 1; exact hop.out _, hb3⟩
            case measure => simp [intOf]; omega
        · obtain rfl : jn = m := by omega
          rw [← hnx.out]
          go_wp2_with fail
          go_roundw
          case rel => exact ⟨k + 1, by omega, by go_num, rfl, hb2⟩
          case measure => simp [intOf]; omega
    · obtain rfl : k = 4 := by omega
      have hsz := jnB_len n hcl.out 4 0 (by omega) (by omega)
      rw [show opsL n 4 ++ List.replicate 0 (opB 4) = opsL n 4 from by simp] at hsz
      generalize jnB (opsL n 4) = x at hsz hrB ⊢
      have htc := carry hbw hW1s hrt.out
      have hTw := Lib.hid (h.out.below ((hW1b.out).trans (hbw.mono (by omega))))
      have hGw := Lib.hid (GoV.of_below (b1 := g) (b2 := g) (v1 := v1) (v2 := v2) ((hW1b.out).trans (hbw.mono (by omega))))
      by_cases ht : 0 ≤ t
      · have hRB : Hid (RB = ⟨#[60]⟩ ++ (x ++ ⟨#[124, 101]⟩ ++ ⟨IT.toArray⟩) ++ ⟨#[62]⟩) := Lib.hid (by rw [hrB.out, if_pos ht]; apply ba_ext; simp)
        have hAT : Hid (AT = AL) := Lib.hid (by rw [hadd.out, if_pos ht])
        obtain ⟨dg, hdg⟩ : ∃ x, (⟨IT.toArray⟩ : ByteArray) = x := ⟨_, rfl⟩
        have hds : dg.size ≤ 21 := by rw [← hdg]; show IT.toArray.size ≤ 21; simpa using hit
        rw [hdg] at hdc hRB
        clear hdg hrB hadd hit
        go_wp2_with fail
        refine (hnr.out _ hTw.out).mono ?_
        rintro e w8 ⟨rfl, y1, y2, hp8, hg8⟩
        have hT8 := Lib.hid hp8
        have hG8 := Lib.hid (hGw.out.trans hg8)
        clear hp8 hg8
        go_wp2_with fail
        refine (hdc.out _).mono ?_
        rintro e w9 ⟨rfl, hb9⟩
        have hT9 := Lib.hid (hT8.out.below hb9)
        have hG9 := Lib.hid (hG8.out.trans (GoV.of_below hb9))
        clear hb9
        go_wp2_with fail
        go_ret
        exact ⟨ret_s (by rw [hRB.out]), y1, y2, by rw [hAT.out]; exact hT9.out, hG9.out⟩
      · have hRB : Hid (RB = ⟨#[60]⟩ ++ x ++ ⟨#[62]⟩) := Lib.hid (by rw [hrB.out, if_neg ht]; apply ba_ext; simp)
        have hAT : Hid (AT = l2) := Lib.hid (by rw [hadd.out, if_neg ht])
        clear hrB hadd hit
        go_wp2_with fail
        go_ret
        exact ⟨ret_s (by rw [hRB.out]), v1, v2, by rw [hAT.out]; exact hTw.out, hGw.out⟩
end Go.Proofs.YtdganhamafhfdaaDoor

/- The reference's text of a type. -/
namespace Go.Proofs.YtdganhamafhfdaaDoor
open Go.RowKit Go.Maps
set_option linter.unusedVariables false
set_option linter.unusedSimpArgs false

def NtPost (B g : Nat) (w : World) (v1 v2 : Value) (T : TT) (l1 l2 : List Int) (e : Ending) (w' : World) : Prop :=
  e = .returned (.string ⟨(tx T l1 l2).toArray⟩) ∧ ∃ v1' v2', TwoI B g 0 g 1 w' v1' v2' (tvs T l1) (rvs T l2) ∧ GoV g g w w' v1 v2 v1' v2'
theorem ntx_eq (a b : TT) (r : Rw) (l1 l2 : List Int) : (⟨(tx (.fn a r b) l1 l2).toArray⟩ : ByteArray) = ⟨#[40]⟩ ++ ⟨(tx a l1 l2).toArray⟩ ++ ⟨#[32, 45]⟩ ++ rowK r.a r.b r.c r.d r.t (Lib.itoa (posI (rvs a l2) r.t : Nat)) ++ ⟨#[32]⟩ ++ ⟨(tx b (tvs a l1) (addT (rvs a l2) r.t)).toArray⟩ ++ ⟨#[41]⟩ := by
  rw [show tx (.fn a r b) l1 l2 = [40] ++ tx a l1 l2 ++ ([32, 45] ++ rwT r (Lib.itoa (posI (rvs a l2) r.t : Nat)) ++ [32]) ++ tx b (tvs a l1) (addT (rvs a l2) r.t) ++ [41] from rfl]
  apply ba_ext
  unfold rwT
  simp
theorem sz_tx (l : List UInt8) : (⟨l.toArray⟩ : ByteArray).size = l.length := by show l.toArray.size = _; simp
set_option maxRecDepth 100000 in
set_option maxHeartbeats 8000000 in
theorem ntext_any (g B : Nat) (bt off c : Nat) (ts : List Ty) (hbt : bt < B) (hb1 : bt ≠ g) (hl : ts.length ≤ 256) : ∀ (T : TT) (i : Nat) (w : World) (v1 v2 : Value) (l1 l2 : List Int), Hid (SubAt ts T i) → T.ok = true → Hid (TySl w bt off ts) → Hid (TwoI B g 0 g 1 w v1 v2 l1 l2) → l1.length + T.sz ≤ 10000 → l2.length + T.sz ≤ 10000 → T.sz ≤ 256 →
    Calls Tryd.prog 47 #[.pointer (some ⟨g, 0, none⟩), .slice (some ⟨bt, off, none⟩) ts.length c, .int .i64 i] w (NtPost B g w v1 v2 T l1 l2) := by
  intro T
  induction T with
  | base k =>
    intro i w v1 v2 l1 l2 hS hT hN h hz1 hz2 hz3
    obtain ⟨hi, hn⟩ := hS.out
    have hk : k = 0 ∨ k = 1 := by simpa [TT.ok] using hT
    have hA := hN.out i hi
    rw [hn] at hA
    obtain ⟨e0, e1, e2, e3, e4, e5, e6, e7, e8⟩ := hA
    simp only [bsT] at e0 e1 e2 e3 e4 e5 e6 e7 e8
    have hbw : bt < w.heap.size := by have := h.out.hB; omega
    have hi' : (i : Int) < (ts.length : Int) := by omega
    have hi0 : (0 : Int) ≤ (i : Int) := by omega
    clear hn hT hS
    rcases hk with rfl | rfl
    all_goals
      go_enter Tryd.func47, Tryd.ntmps47
      go_wp2_with fail
      go_ret
      exact ⟨rfl, v1, v2, h.out.below (below_alc w _), GoV.of_below (below_alc w _)⟩
  | var v =>
    intro i w v1 v2 l1 l2 hS hT hN h hz1 hz2 hz3
    obtain ⟨hi, hn⟩ := hS.out
    have hA := hN.out i hi
    rw [hn] at hA
    obtain ⟨e0, e1, e2, e3, e4, e5, e6, e7, e8⟩ := hA
    simp only [vrT] at e0 e1 e2 e3 e4 e5 e6 e7 e8
    have hbw : bt < w.heap.size := by have := h.out.hB; omega
    have hpl := posI_le (l := l1) (v := v)
    have kS := Lib.hid fun (W : World) (hb : Below w.heap.size w W) => nkind_any g B v W v1 v2 l1 l2 (Lib.hid (h.out.below hb)) (by omega) (by omega)
    have hdc := Lib.hid fun (W : World) => (show Calls Tryd.prog 80 #[.int .i64 (posI l1 v : Nat)] W fun e w' => e = .returned (.string ⟨(Lib.itoa (posI l1 v : Nat)).toArray⟩) ∧ Below W.heap.size W w' from (dec_any (posI l1 v : Nat) W (by omega) (by omega)).mono fun e w' h => by unfold DecPost at h; exact h)
    have hit := itoa_len (posI l1 v : Nat) (by omega) (by omega)
    have s3 : rvs (.var v) l2 = l2 := rfl
    have s1 : tvs (.var v) l1 = addI l1 v := rfl
    have htx : Hid ((⟨(tx (.var v) l1 l2).toArray⟩ : ByteArray) = ⟨#[116]⟩ ++ ⟨(Lib.itoa (posI l1 v : Nat)).toArray⟩) := Lib.hid (by rw [show tx (.var v) l1 l2 = 116 :: Lib.itoa (posI l1 v : Nat) from rfl]; apply ba_ext; simp)
    unfold NtPost
    rw [s3, s1]
    generalize (⟨(tx (.var v) l1 l2).toArray⟩ : ByteArray) = TX at htx ⊢
    rw [← sz_tx] at hit
    generalize (⟨(Lib.itoa (posI l1 v : Nat)).toArray⟩ : ByteArray) = IT at htx hdc hit
    generalize posI l1 v = P at kS hdc hpl
    generalize addI l1 v = L1 at kS ⊢
    have hi' : (i : Int) < (ts.length : Int) := by omega
    have hi0 : (0 : Int) ≤ (i : Int) := by omega
    clear hn s3 s1 hT hS
    go_enter Tryd.func47, Tryd.ntmps47
    go_wp2_with fail
    refine (kS.out _ (below_alc w _)).mono ?_
    rintro e w1 ⟨rfl, y1, y2, hp, hg⟩
    have hT1 := Lib.hid hp
    have hG1 := Lib.hid ((GoV.of_below (below_alc w _)).trans hg)
    clear hp hg
    go_wp2_with fail
    refine (hdc.out _).mono ?_
    rintro e w2 ⟨rfl, hb⟩
    have hT2 := Lib.hid (hT1.out.below hb)
    have hG2 := Lib.hid (hG1.out.trans (GoV.of_below hb))
    clear hb
    go_wp2_with fail
    go_ret
    exact ⟨ret_s (by rw [htx.out]), y1, y2, hT2.out, hG2.out⟩
  | fn a r b iha ihb =>
    intro i w v1 v2 l1 l2 hS hT hN h hz1 hz2 hz3
    obtain ⟨hi, j, k, hn, hji, hki, hSa, hSb⟩ := hS.out
    unfold TT.ok at hT
    simp only [Bool.and_eq_true] at hT
    have hsz : (TT.fn a r b).sz = a.sz + b.sz + 1 := rfl
    rw [hsz] at hz1 hz2 hz3
    have hA := hN.out i hi
    rw [hn] at hA
    obtain ⟨e0, e1, e2, e3, e4, e5, e6, e7, e8⟩ := hA
    simp only [fnT] at e0 e1 e2 e3 e4 e5 e6 e7 e8
    have hbw : bt < w.heap.size := by have := h.out.hB; omega
    have t1 := tvs_len a l1
    have t2 := rvs_len a l2
    have t3 := addT_len (rvs a l2) r.t
    have kA := Lib.hid fun (W : World) (hb : Below w.heap.size w W) => iha j W v1 v2 l1 l2 (Lib.hid hSa) hT.1.1 (Lib.hid (hN.out.below hb hbw)) (Lib.hid (h.out.below hb)) (by omega) (by omega) (by omega)
    have kS := Lib.hid fun (W : World) (u1 u2 : Value) (hW : TwoI B g 0 g 1 W u1 u2 (tvs a l1) (rvs a l2)) => nrowText_any g B r.a r.b r.c r.d r.t W u1 u2 (tvs a l1) (rvs a l2) hT.1.2 (Lib.hid hW) (by omega) (by omega)
    have kB := Lib.hid fun (W : World) (u1 u2 : Value) (hW : TwoI B g 0 g 1 W u1 u2 (tvs a l1) (addT (rvs a l2) r.t)) (hNW : TySl W bt off ts) => ihb k W u1 u2 (tvs a l1) (addT (rvs a l2) r.t) (Lib.hid hSb) hT.2 (Lib.hid hNW) (Lib.hid hW) (by omega) (by omega) (by omega)
    have s3 : tvs b (tvs a l1) = tvs (.fn a r b) l1 := rfl
    have s4 : rvs b (addT (rvs a l2) r.t) = rvs (.fn a r b) l2 := rfl
    unfold NtPost at kA kB
    rw [s3, s4] at kB
    have htx := Lib.hid (ntx_eq a b r l1 l2)
    have q1 := tx_len a l1 l2 hT.1.1 (by omega) (by omega)
    have q2 := tx_len b (tvs a l1) (addT (rvs a l2) r.t) hT.2 (by omega) (by omega)
    have q3 := rwT_len hT.1.2 (Lib.itoa (posI (rvs a l2) r.t : Nat)) (by have := itoa_len (posI (rvs a l2) r.t : Nat) (by omega) (by have := posI_le (l := rvs a l2) (v := r.t); omega); omega)
    have q3 : (rowK r.a r.b r.c r.d r.t (Lib.itoa (posI (rvs a l2) r.t : Nat))).size ≤ 500 := by
      have e : (rowK r.a r.b r.c r.d r.t (Lib.itoa (posI (rvs a l2) r.t : Nat))).size = (rwT r (Lib.itoa (posI (rvs a l2) r.t : Nat))).length := by unfold rwT; simp
      rw [e]; exact q3
    rw [← sz_tx] at q1 q2
    unfold NtPost
    generalize (⟨(tx (.fn a r b) l1 l2).toArray⟩ : ByteArray) = TX at htx ⊢
    generalize (⟨(tx a l1 l2).toArray⟩ : ByteArray) = SA at htx kA q1
    generalize (⟨(tx b (tvs a l1) (addT (rvs a l2) r.t)).toArray⟩ : ByteArray) = SB at htx kB q2
    generalize rowK r.a r.b r.c r.d r.t (Lib.itoa (posI (rvs a l2) r.t : Nat)) = SR at htx kS q3
    generalize tvs (.fn a r b) l1 = R1 at kB ⊢
    generalize rvs (.fn a r b) l2 = R2 at kB ⊢
    generalize addT (rvs a l2) r.t = M2 at kB kS
    generalize tvs a l1 = M1 at kA kS kB
    generalize rvs a l2 = L2 at kA kS
    have hi' : (i : Int) < (ts.length : Int) := by omega
    have hi0 : (0 : Int) ≤ (i : Int) := by omega
    have z1 : SA.size ≤ 153600 := by omega
    have z2 : SB.size ≤ 153600 := by omega
    have hX0 : Hid (TnAt (w.alloc (.cells #[.int .i64 3, .int .i64 0, .int .i64 j, .int .i64 k, .int .i64 r.a, .int .i64 r.b, .int .i64 r.c, .int .i64 r.d, .int .i64 r.t] 52)) w.heap.size (fnT j k r)) := Lib.hid (TnAt.alc rfl rfl)
    clear hn s3 s4 hT hz1 hz2 hz3 t1 t2 t3 hsz iha ihb hSa hSb hS q1 q2
    go_enter Tryd.func47, Tryd.ntmps47
    go_wp2_with fail
    clear e0 e1 e2 e3 e4 e5 e6 e7 e8
    refine (kA.out _ (below_alc w _)).mono ?_
    rintro e w1 ⟨rfl, u1, u2, hp1, hg1⟩
    have hX1 := Lib.hid (hX0.out.bar hg1.bar (h.out.fresh (Nat.le_refl _)))
    have hN1 := Lib.hid ((hN.out.below (below_alc w _) hbw).bar hg1.bar (h.out.low hbt hb1 hb1))
    have hV1 : Hid (¬ SV g g u1 u2 w.heap.size) := Lib.hid fun hs => h.out.fresh (Nat.le_refl _) (hg1.away (by simp) hs)
    have hG1 := Lib.hid ((GoV.of_below (below_alc w _)).trans hg1)
    have hP1 := Lib.hid hp1
    have hs1 := hG1.out.bar.size
    clear hp1 hg1
    obtain ⟨x0, x1, x2, x3, x4, x5, x6, x7, x8, x9⟩ := hX1.out
    simp only [fnT] at x1 x2 x3 x4 x5 x6 x7 x8 x9
    go_wp2_with fail
    clear x0 x1 x2 x3 x4 x5 x6 x7 x8 x9
    refine (kS.out _ _ _ hP1.out).mono ?_
    rintro e w2 ⟨rfl, y1, y2, hp2, hg2⟩
    have hX2 := Lib.hid (hX1.out.bar hg2.bar hV1.out)
    have hN2 := Lib.hid (hN1.out.bar hg2.bar (hP1.out.low hbt hb1 hb1))
    have hG2 := Lib.hid (hG1.out.trans hg2)
    have hP2 := Lib.hid hp2
    clear hp2 hg2
    obtain ⟨x0, x1, x2, x3, x4, x5, x6, x7, x8, x9⟩ := hX2.out
    simp only [fnT] at x1 x2 x3 x4 x5 x6 x7 x8 x9
    go_wp2_with fail
    clear x0 x1 x2 x3 x4 x5 x6 x7 x8 x9
    refine (kB.out _ _ _ hP2.out hN2.out).mono ?_
    rintro e w3 ⟨rfl, z1', z2', hp3, hg3⟩
    have hG3 := Lib.hid (hG2.out.trans hg3)
    have hP3 := Lib.hid hp3
    clear hp3 hg3
    go_wp2_with fail
    go_ret
    exact ⟨ret_s (by rw [htx.out]), z1', z2', hP3.out, hG3.out⟩
set_option maxRecDepth 100000 in
set_option maxHeartbeats 8000000 in
theorem rTypeText_any (a : Option Addr) (n c : Nat) (ts : List Ty) (w : World) (h : Hid (TyArg w a n ts)) (hl : n ≤ 140737488351232) :
    Calls Tryd.prog 19 #[.agg #[.slice a n c]] w fun e w' => e = .returned (.tuple #[.string (txV ts), .int .i64 (txE ts)]) ∧ Below w.heap.size w w' := by
  have kM := Lib.hid fun (W : World) (hb : Below w.heap.size w W) => rTyMay_any a n c ts W (Lib.hid (h.out.below hb)) hl
  have hX := Lib.hid (show BoxAt (w.alloc (.cells #[.slice a n c] 24)) w.heap.size (.slice a n c) from box_lit _ _ _ _ rfl)
  cases htv : tyV ts
  · have hv : Hid (txV ts = ⟨#[]⟩ ∧ txE ts = 700) := Lib.hid (by unfold txV txE; rw [htv]; exact ⟨rfl, rfl⟩)
    rw [htv] at kM
    clear htv h
    go_enter Tryd.func19, Tryd.ntmps19
    go_wp2_with fail
    refine (kM.out _ (below_alc w _)).mono ?_
    rintro e w1 ⟨rfl, hb1⟩
    have hB := Lib.hid (belT (below_alc w _) hb1)
    clear hb1
    go_wp2_with fail
    go_ret2
    exact ⟨by rw [hv.out.1, hv.out.2]; rfl, hB.out⟩
  · have hto := tyV_of htv
    have hle := tyV_le htv
    have hv : Hid (txV ts = ⟨(tx (treeOf ts) [] []).toArray⟩ ∧ txE ts = 0) := Lib.hid (by unfold txV txE; rw [htv]; exact ⟨rfl, rfl⟩)
    obtain ⟨rfl, _⟩ := h.out
    obtain ⟨b, off, rfl, hA4, hA5⟩ := tyArg_some h.out htv
    have kT := Lib.hid fun (p : Nat) (W : World) (hp : w.heap.size ≤ p) (hb : Below w.heap.size w W) (hT : TwoI (p + 1) p 0 p 1 W (.slice none 0 0) (.slice none 0 0) [] []) =>
      (show Calls Tryd.prog 47 #[.pointer (some ⟨p, 0, none⟩), .slice (some ⟨b, off, none⟩) ts.length c, .int .i64 ((ts.length : Int) - 1)] W (NtPost (p + 1) p W (.slice none 0 0) (.slice none 0 0) (treeOf ts) [] []) from by
        have := ntext_any p (p + 1) b off c ts (by omega) (by omega) hle.2 (treeOf ts) (ts.length - 1) W (.slice none 0 0) (.slice none 0 0) [] [] (Lib.hid hto.2.2.2.2) hto.1 (Lib.hid (hA4.below hb hA5)) (Lib.hid hT) (by simp; omega) (by simp; omega) (by omega)
        rw [show ((ts.length - 1 : Nat) : Int) = (ts.length : Int) - 1 by omega] at this
        exact this)
    rw [htv] at kM
    unfold NtPost at kT
    generalize (⟨(tx (treeOf ts) [] []).toArray⟩ : ByteArray) = TX at kT hv
    generalize tvs (treeOf ts) [] = L1 at kT
    generalize rvs (treeOf ts) [] = L2 at kT
    clear htv hto hA4 h
    go_enter Tryd.func19, Tryd.ntmps19
    go_wp2_with fail
    refine (kM.out _ (below_alc w _)).mono ?_
    rintro e w1 ⟨rfl, hb1⟩
    have hX1 := Lib.hid (hX.out.below hb1)
    have hB := Lib.hid (belT (below_alc w (.cells #[.slice (some ⟨b, off, none⟩) ts.length c] 24)) hb1)
    have hs1 : w.heap.size + 1 ≤ w1.heap.size := by have := hb1.size; simpa using this
    obtain ⟨x0, x1⟩ := hX1.out
    clear hb1
    have hT1 : Hid (TwoI (w1.heap.size + 1) w1.heap.size 0 w1.heap.size 1 (w1.alloc (.cells #[.slice none 0 0, .slice none 0 0] 85)) (.slice none 0 0) (.slice none 0 0) [] []) := Lib.hid ⟨by simp, by simp, by simp [go_sem], by simp [go_sem], OwnI.nil _ _, OwnI.nil _ _, fun k hk => by simp [Value.ownBlock] at hk, by omega, by omega, by simp, .inr (by omega)⟩
    have hB1 := Lib.hid (hB.out.trans ((below_alc w1 (.cells #[.slice none 0 0, .slice none 0 0] 85)).mono (by omega)))
    go_wp2_with fail
    refine (kT.out w1.heap.size _ (by omega) hB1.out hT1.out).mono ?_
    rintro e w2 ⟨rfl, u1, u2, hp2, hg2⟩
    have hB2 := Lib.hid (hB1.out.trans (hT1.out.belowB hg2 (A := w.heap.size) (by omega) (by omega)))
    clear hp2 hg2
    go_wp2_with fail
    go_ret2
    exact ⟨by rw [hv.out.1, hv.out.2]; rfl, hB2.out⟩
end Go.Proofs.YtdganhamafhfdaaDoor

/- typ.Fun. -/
/- typ.Fun. -/
namespace Go.Proofs.YtdganhamafhfdaaDoor
open Go.RowKit
set_option linter.unusedVariables false
set_option linter.unusedSimpArgs false

/-- a function's nodes. -/
def arwL (us : List Ty) (r : Rw) (bs : List Ty) : List Ty := us ++ bs.map (shT us.length) ++ [fnT ((us.length : Int) - 1) (((us.length + bs.length : Nat) : Int) - 1) r]
def funOk (us : List Ty) (r : Rw) (bs : List Ty) : Bool := tyV us && tyV bs && r.may && decide (us.length + bs.length + 1 ≤ 256)
def funT (us : List Ty) (r : Rw) (bs : List Ty) : List Ty := if funOk us r bs then arwL us r bs else []
def funE (us : List Ty) (r : Rw) (bs : List Ty) : Int := if funOk us r bs then 0 else 700
/-- the memory that Fun has of its own. -/
def FnW (w : World) (r : Rw) (a1 : Option Addr) (n1 c1 : Nat) (a2 : Option Addr) (n2 c2 : Nat) (W : World) : Prop :=
  w.heap.size + 3 < W.heap.size ∧ W.cell? ⟨w.heap.size, 0, none⟩ = some (.slice a1 n1 c1) ∧ RowAt W (w.heap.size + 1) r ∧ W.cell? ⟨w.heap.size + 1 + 1, 0, none⟩ = some (.slice a2 n2 c2) ∧ W.cell? ⟨w.heap.size + 1 + 1 + 1, 0, none⟩ = some (.slice none 0 0) ∧ W.frozen? ⟨w.heap.size + 1 + 1 + 1, 0, none⟩ = false ∧ Below w.heap.size w W
theorem FnW.below {w W W' : World} {r : Rw} {a1 a2 : Option Addr} {n1 c1 n2 c2 : Nat} (h : FnW w r a1 n1 c1 a2 n2 c2 W) (hb : Below W.heap.size W W') : FnW w r a1 n1 c1 a2 n2 c2 W' := by
  obtain ⟨h0, h1, h2, h3, h4, h5, h6⟩ := h
  exact ⟨by have := hb.size; omega, carry hb (by omega) h1, h2.below hb, carry hb (by omega) h3, carry hb (by omega) h4, by rw [hb.frozen (p := ⟨w.heap.size + 1 + 1 + 1, 0, none⟩) (show w.heap.size + 1 + 1 + 1 < W.heap.size by omega)]; exact h5, belT h6 hb⟩
theorem fnW_mk (w : World) (r : Rw) (a1 : Option Addr) (n1 c1 : Nat) (a2 : Option Addr) (n2 c2 : Nat) : FnW w r a1 n1 c1 a2 n2 c2 ((((w.alloc (.cells #[.slice a1 n1 c1] 24)).alloc (.cells #[.int .i64 r.a, .int .i64 r.b, .int .i64 r.c, .int .i64 r.d, .int .i64 r.t] 27)).alloc (.cells #[.slice a2 n2 c2] 24)).alloc (.cells #[.slice none 0 0] 24)) :=
  ⟨by simp, (BoxAt.alloc _ (BoxAt.alloc _ (BoxAt.alloc _ (box_lit w _ _ _ rfl)))).2, RowAt.alloc _ (RowAt.alloc _ (row_lit (w.alloc _) _ _ r (by simp))), (BoxAt.alloc _ (box_lit ((w.alloc _).alloc _) _ _ _ (by simp))).2, (box_lit (((w.alloc _).alloc _).alloc _) _ _ _ (by simp)).2, by simp [go_sem], belA _ (belA _ (below_alc2 w _ _))⟩
def FunPost (us : List Ty) (r : Rw) (bs : List Ty) (w : World) (e : Ending) (w' : World) : Prop := ∃ v, e = .returned (.tuple #[.agg #[v], .int .i64 (funE us r bs)]) ∧ OwnT w.heap.size w' v (funT us r bs) ∧ Below w.heap.size w w'
theorem fun_no {us : List Ty} {r : Rw} {bs : List Ty} {w w' : World} {v : Value} (h : funOk us r bs = false) (hv : v = .slice none 0 0) (hb : Below w.heap.size w w') : FunPost us r bs w (.returned (.tuple #[.agg #[v], .int .i64 700])) w' := by
  subst hv
  refine ⟨_, by unfold funE; rw [h]; rfl, ?_, hb⟩
  unfold funT; rw [h]; exact OwnT.nil _ _
theorem fun_yes {us : List Ty} {r : Rw} {bs : List Ty} (h : funOk us r bs = true) : funE us r bs = 0 ∧ funT us r bs = arwL us r bs := by unfold funE funT; rw [h]; exact ⟨rfl, rfl⟩
set_option maxRecDepth 100000 in
set_option maxHeartbeats 8000000 in
theorem fun_bad (a1 : Option Addr) (n1 c1 : Nat) (r : Rw) (a2 : Option Addr) (n2 c2 : Nat) (us bs : List Ty) (w : World) (h1 : Hid (TyArg w a1 n1 us)) (h2 : Hid (TyArg w a2 n2 bs)) (hl : n1 ≤ 140737488351232) (hl2 : n2 ≤ 140737488351232) (hno : funOk us r bs = false) :
    Calls Tryd.prog 22 #[.agg #[.slice a1 n1 c1], .agg #[.int .i64 r.a, .int .i64 r.b, .int .i64 r.c, .int .i64 r.d, .int .i64 r.t], .agg #[.slice a2 n2 c2]] w (FunPost us r bs w) := by
  have kM := Lib.hid fun (W : World) (hb : Below w.heap.size w W) => tyMay_any a1 n1 c1 us W (Lib.hid (h1.out.below hb)) hl
  have kN := Lib.hid fun (W : World) (hb : Below w.heap.size w W) => tyMay_any a2 n2 c2 bs W (Lib.hid (h2.out.below hb)) hl2
  have kR := Lib.hid fun (W : World) => rowsMay_any r.a r.b r.c r.d r.t W
  have hW0 := Lib.hid (fnW_mk w r a1 n1 c1 a2 n2 c2)
  have hn1 := h1.out.1
  have hn2 := h2.out.1
  obtain ⟨q1, hq1⟩ : ∃ q, tyV us = q := ⟨_, rfl⟩
  obtain ⟨q2, hq2⟩ : ∃ q, tyV bs = q := ⟨_, rfl⟩
  obtain ⟨q3, hq3⟩ : ∃ q, mayR r.a r.b r.c r.d r.t = q := ⟨_, rfl⟩
  have hq4 : q1 = true → q2 = true → q3 = true → 256 < n1 + n2 + 1 := by
    rintro rfl rfl rfl
    unfold funOk at hno
    rw [hq1, hq2, show r.may = true from hq3] at hno
    simp at hno
    omega
  rw [hq1] at kM
  rw [hq2] at kN
  rw [hq3] at kR
  have hno := Lib.hid hno
  have hb0 : ∀ W, FnW w r a1 n1 c1 a2 n2 c2 W → Below w.heap.size w W := fun W h => h.2.2.2.2.2.2
  have hb0 := Lib.hid hb0
  clear hq1 hq2 hq3 hn1 hn2 h1 h2
  go_enter Tryd.func22, Tryd.ntmps22
  go_upto_region 1 with fail
  obtain ⟨W0, hW0e⟩ : ∃ W, ((((w.alloc (.cells #[.slice a1 n1 c1] 24)).alloc (.cells #[.int .i64 r.a, .int .i64 r.b, .int .i64 r.c, .int .i64 r.d, .int .i64 r.t] 27)).alloc (.cells #[.slice a2 n2 c2] 24)).alloc (.cells #[.slice none 0 0] 24)) = W := ⟨_, rfl⟩
  rw [hW0e] at hW0 ⊢
  clear hW0e
  obtain ⟨x0, x1, ⟨x2, x3, x4, x5, x6, x7⟩, x8, x9, x10, x11⟩ := hW0.out
  cases q1
  · go_wp2_with fail
    refine (kM.out _ (hb0.out _ hW0.out)).mono ?_
    rintro e w1 ⟨rfl, hb⟩
    have hW1 := Lib.hid (hW0.out.below hb)
    clear x0 x1 x2 x3 x4 x5 x6 x7 x8 x9 x10 x11 hb
    obtain ⟨x0, x1, ⟨x2, x3, x4, x5, x6, x7⟩, x8, x9, x10, x11⟩ := hW1.out
    go_wp2_with fail
    refine bodyPost_ret (v := .tuple #[.agg #[.slice none 0 0], .int .i64 700]) (by simp [results, Tryd.results22, go_sem, x10, setS x9]) rfl (fun_no hno.out rfl ((hb0.out _ hW1.out).setCell (by show w.heap.size ≤ w.heap.size + 1 + 1 + 1; omega) _))
  cases q2
  · go_wp2_with fail
    refine (kM.out _ (hb0.out _ hW0.out)).mono ?_
    rintro e w1 ⟨rfl, hb⟩
    have hW1 := Lib.hid (hW0.out.below hb)
    clear x0 x1 x2 x3 x4 x5 x6 x7 x8 x9 x10 x11 hb
    obtain ⟨x0, x1, ⟨x2, x3, x4, x5, x6, x7⟩, x8, x9, x10, x11⟩ := hW1.out
    go_wp2_with fail
    refine (kN.out _ (hb0.out _ hW1.out)).mono ?_
    rintro e w2 ⟨rfl, hb⟩
    have hW2 := Lib.hid (hW1.out.below hb)
    clear x0 x1 x2 x3 x4 x5 x6 x7 x8 x9 x10 x11 hb
    obtain ⟨x0, x1, ⟨x2, x3, x4, x5, x6, x7⟩, x8, x9, x10, x11⟩ := hW2.out
    go_wp2_with fail
    refine bodyPost_ret (v := .tuple #[.agg #[.slice none 0 0], .int .i64 700]) (by simp [results, Tryd.results22, go_sem, x10, setS x9]) rfl (fun_no hno.out rfl ((hb0.out _ hW2.out).setCell (by show w.heap.size ≤ w.heap.size + 1 + 1 + 1; omega) _))
  cases q3
  · go_wp2_with fail
    refine (kM.out _ (hb0.out _ hW0.out)).mono ?_
    rintro e w1 ⟨rfl, hb⟩
    have hW1 := Lib.hid (hW0.out.below hb)
    clear x0 x1 x2 x3 x4 x5 x6 x7 x8 x9 x10 x11 hb
    obtain ⟨x0, x1, ⟨x2, x3, x4, x5, x6, x7⟩, x8, x9, x10, x11⟩ := hW1.out
    go_wp2_with fail
    refine (kN.out _ (hb0.out _ hW1.out)).mono ?_
    rintro e w2 ⟨rfl, hb⟩
    have hW2 := Lib.hid (hW1.out.below hb)
    clear x0 x1 x2 x3 x4 x5 x6 x7 x8 x9 x10 x11 hb
    obtain ⟨x0, x1, ⟨x2, x3, x4, x5, x6, x7⟩, x8, x9, x10, x11⟩ := hW2.out
    go_wp2_with fail
    refine (kR.out _).mono ?_
    rintro e w3 ⟨rfl, hb⟩
    have hW3 := Lib.hid (hW2.out.below hb)
    clear x0 x1 x2 x3 x4 x5 x6 x7 x8 x9 x10 x11 hb
    obtain ⟨x0, x1, ⟨x2, x3, x4, x5, x6, x7⟩, x8, x9, x10, x11⟩ := hW3.out
    go_wp2_with fail
    refine bodyPost_ret (v := .tuple #[.agg #[.slice none 0 0], .int .i64 700]) (by simp [results, Tryd.results22, go_sem, x10, setS x9]) rfl (fun_no hno.out rfl ((hb0.out _ hW3.out).setCell (by show w.heap.size ≤ w.heap.size + 1 + 1 + 1; omega) _))
  · have hq5 := hq4 rfl rfl rfl
    go_wp2_with fail
    refine (kM.out _ (hb0.out _ hW0.out)).mono ?_
    rintro e w1 ⟨rfl, hb⟩
    have hW1 := Lib.hid (hW0.out.below hb)
    clear x0 x1 x2 x3 x4 x5 x6 x7 x8 x9 x10 x11 hb
    obtain ⟨x0, x1, ⟨x2, x3, x4, x5, x6, x7⟩, x8, x9, x10, x11⟩ := hW1.out
    go_wp2_with fail
    refine (kN.out _ (hb0.out _ hW1.out)).mono ?_
    rintro e w2 ⟨rfl, hb⟩
    have hW2 := Lib.hid (hW1.out.below hb)
    clear x0 x1 x2 x3 x4 x5 x6 x7 x8 x9 x10 x11 hb
    obtain ⟨x0, x1, ⟨x2, x3, x4, x5, x6, x7⟩, x8, x9, x10, x11⟩ := hW2.out
    go_wp2_with fail
    refine (kR.out _).mono ?_
    rintro e w3 ⟨rfl, hb⟩
    have hW3 := Lib.hid (hW2.out.below hb)
    clear x0 x1 x2 x3 x4 x5 x6 x7 x8 x9 x10 x11 hb
    obtain ⟨x0, x1, ⟨x2, x3, x4, x5, x6, x7⟩, x8, x9, x10, x11⟩ := hW3.out
    go_wp2_with fail
    refine bodyPost_ret (v := .tuple #[.agg #[.slice none 0 0], .int .i64 700]) (by simp [results, Tryd.results22, go_sem, x10, setS x9]) rfl (fun_no hno.out rfl ((hb0.out _ hW3.out).setCell (by show w.heap.size ≤ w.heap.size + 1 + 1 + 1; omega) _))
set_option maxRecDepth 100000 in
set_option maxHeartbeats 8000000 in
theorem fun_good (a1 : Option Addr) (n1 c1 : Nat) (r : Rw) (a2 : Option Addr) (n2 c2 : Nat) (us bs : List Ty) (w : World) (h1 : Hid (TyArg w a1 n1 us)) (h2 : Hid (TyArg w a2 n2 bs)) (hok : funOk us r bs = true) :
    Calls Tryd.prog 22 #[.agg #[.slice a1 n1 c1], .agg #[.int .i64 r.a, .int .i64 r.b, .int .i64 r.c, .int .i64 r.d, .int .i64 r.t], .agg #[.slice a2 n2 c2]] w (FunPost us r bs w) := by
  have hok' : (tyV us = true ∧ tyV bs = true) ∧ mayR r.a r.b r.c r.d r.t = true ∧ us.length + bs.length + 1 ≤ 256 := by
    unfold funOk at hok
    simp only [Bool.and_eq_true, decide_eq_true_eq] at hok
    exact ⟨hok.1.1, hok.1.2, hok.2⟩
  obtain ⟨⟨ha, hb⟩, hr, hsz⟩ := hok'
  have hla := tyV_le ha
  have hlb := tyV_le hb
  have hch := Lib.hid fun (m : Nat) (hm : m < bs.length) (h3 : (bs.getD m ty0).k = 3) => tyV_child hb hm h3
  have kM := Lib.hid fun (W : World) (hb : Below w.heap.size w W) => tyMay_any a1 n1 c1 us W (Lib.hid (h1.out.below hb)) (by have := h1.out.1; omega)
  have kN := Lib.hid fun (W : World) (hb : Below w.heap.size w W) => tyMay_any a2 n2 c2 bs W (Lib.hid (h2.out.below hb)) (by have := h2.out.1; omega)
  have kR := Lib.hid fun (W : World) => rowsMay_any r.a r.b r.c r.d r.t W
  have kC := Lib.hid fun (W : World) (hb : Below w.heap.size w W) => clone_any a1 n1 c1 us W (Lib.hid (h1.out.below hb)) (by have := h1.out.1; omega)
  rw [ha] at kM
  rw [hb] at kN
  rw [hr] at kR
  have ha0 : us ≠ [] := by intro h; rw [h] at hla; simp at hla
  obtain ⟨rfl, hA1⟩ := h1.out
  obtain ⟨rfl, hA2⟩ := h2.out
  obtain ⟨b1, off1, rfl, hS1, hb1⟩ := Or.resolve_left hA1 ha0
  obtain ⟨b2, off2, rfl, hS2, hb2⟩ : ∃ b off, a2 = some ⟨b, off, none⟩ ∧ TySl w b off bs ∧ b < w.heap.size := by
    rcases hA2 with h0 | h0
    · rw [h0] at hlb; simp at hlb
    · exact h0
  have hS2 := Lib.hid hS2
  have hWW := Lib.hid (fnW_mk w r (some ⟨b1, off1, none⟩) us.length c1 (some ⟨b2, off2, none⟩) bs.length c2)
  have hfy := Lib.hid (fun_yes hok)
  have hb0 := Lib.hid (fun W (h : FnW w r (some ⟨b1, off1, none⟩) us.length c1 (some ⟨b2, off2, none⟩) bs.length c2 W) => h.2.2.2.2.2.2)
  unfold FunPost
  rw [hfy.out.1, hfy.out.2]
  clear hA1 hA2 ha hb hr hok hS1 h1 h2 hfy ha0
  go_enter Tryd.func22, Tryd.ntmps22
  go_upto_region 1 with fail
  obtain ⟨V0, hV0e⟩ : ∃ W, ((((w.alloc (.cells #[.slice (some ⟨b1, off1, none⟩) us.length c1] 24)).alloc (.cells #[.int .i64 r.a, .int .i64 r.b, .int .i64 r.c, .int .i64 r.d, .int .i64 r.t] 27)).alloc (.cells #[.slice (some ⟨b2, off2, none⟩) bs.length c2] 24)).alloc (.cells #[.slice none 0 0] 24)) = W := ⟨_, rfl⟩
  rw [hV0e] at hWW ⊢
  clear hV0e
  obtain ⟨x0, x1, ⟨x2, x3, x4, x5, x6, x7⟩, x8, x9, x10, x11⟩ := hWW.out
  go_wp2_with fail
  refine (kM.out _ (hb0.out _ hWW.out)).mono ?_
  rintro e V1 ⟨rfl, hb⟩
  have hWW := Lib.hid (hWW.out.below hb)
  clear x0 x1 x2 x3 x4 x5 x6 x7 x8 x9 x10 x11 hb
  obtain ⟨x0, x1, ⟨x2, x3, x4, x5, x6, x7⟩, x8, x9, x10, x11⟩ := hWW.out
  go_wp2_with fail
  refine (kN.out _ (hb0.out _ hWW.out)).mono ?_
  rintro e V2 ⟨rfl, hb⟩
  have hWW := Lib.hid (hWW.out.below hb)
  clear x0 x1 x2 x3 x4 x5 x6 x7 x8 x9 x10 x11 hb
  obtain ⟨x0, x1, ⟨x2, x3, x4, x5, x6, x7⟩, x8, x9, x10, x11⟩ := hWW.out
  go_wp2_with fail
  refine (kR.out _).mono ?_
  rintro e W0 ⟨rfl, hb⟩
  have hW0 := Lib.hid (hWW.out.below hb)
  clear x0 x1 x2 x3 x4 x5 x6 x7 x8 x9 x10 x11 hb hWW
  obtain ⟨x0, x1, ⟨x2, x3, x4, x5, x6, x7⟩, x8, x9, x10, x11⟩ := hW0.out
  go_wp2_with fail
  refine (kC.out _ (hb0.out _ hW0.out)).mono ?_
  rintro e w1 ⟨v', rfl, hown1, hb⟩
  have hB1 := Lib.hid hb
  have hown1' := Lib.hid hown1
  have hA1 := Lib.hid (hW0.out.below hB1.out)
  clear hown1 hb x0 x1 x2 x3 x4 x5 x6 x7 x8 x9 x10 x11 kM kN kR kC
  obtain ⟨x0, x1, ⟨x2, x3, x4, x5, x6, x7⟩, x8, x9, x10, x11⟩ := hA1.out
  go_wp2_with fail
  clear x0 x1 x2 x3 x4 x5 x6 x7 x8 x9 x10 x11
  go_loopw [8, 43] (fun v i W => ∃ m : Nat, m ≤ bs.length ∧ i = .int .i64 m ∧ Hid (OwnT W0.heap.size W v (us ++ (bs.take m).map (shT us.length)) ∧ Below W0.heap.size W0 W)) (fun _ i _ => bs.length - (intOf i).toNat)
  case atStart => exact ⟨0, by omega, rfl, Lib.hid ⟨by rw [List.take_zero, List.map_nil, List.append_nil]; exact hown1'.out, hB1.out⟩⟩
  case round =>
    rename World => W
    obtain ⟨m, hm, rfl, hJ⟩ := hrel
    have hAW := Lib.hid (hW0.out.below hJ.out.2)
    obtain ⟨x0, x1, ⟨x2, x3, x4, x5, x6, x7⟩, x8, x9, x10, x11⟩ := hAW.out
    have hsW := hJ.out.2.size
    have z0 : w.heap.size < W.heap.size := by omega
    have z1 : w.heap.size < W.heap.size + 1 := by omega
    have z2 : w.heap.size + 1 < W.heap.size := by omega
    have z3 : w.heap.size + 1 < W.heap.size + 1 := by omega
    have z4 : w.heap.size + 1 + 1 < W.heap.size := by omega
    have z5 : w.heap.size + 1 + 1 < W.heap.size + 1 := by omega
    have z6 : w.heap.size + 1 + 1 + 1 < W.heap.size := by omega
    have z7 : w.heap.size + 1 + 1 + 1 < W.heap.size + 1 := by omega
    have hOl : (us ++ (bs.take m).map (shT us.length)).length = us.length + m := by rw [List.length_append, List.length_map, List.length_take]; omega
    obtain ⟨va, vn, vc, hveq⟩ := ownT_sl hJ.out.1
    subst hveq
    have hvn : vn = us.length + m := by rw [← hOl]; exact hJ.out.1.arg.1
    subst hvn
    obtain ⟨L, hL⟩ : ∃ L, us ++ (bs.take m).map (shT us.length) = L := ⟨_, rfl⟩
    have hJ1 := Lib.hid hJ.out.1
    have hJ2 := Lib.hid hJ.out.2
    rw [hL] at hJ1 hOl
    have hL2 := Lib.hid hL
    clear hL hJ
    by_cases hmy : m < bs.length
    · have hN := hS2.out.below x11 hb2 m hmy
      have hc3 := hch.out m hmy
      have htk2 := Lib.hid (take_map (shT us.length) bs ty0 hmy)
      generalize bs.getD m ty0 = y at hN hc3 htk2
      obtain ⟨y0, y1, y2, y3, y4, y5, y6, y7, y8⟩ := hN
      have hmy' : (m : Int) < (bs.length : Int) := by omega
      have hm0 : (0 : Int) ≤ (m : Int) := by omega
      have hybs : b2 < W.heap.size := by omega
      by_cases hy3 : y.k = 3
      · obtain ⟨ha0', ha1', hb0', hb1'⟩ := hc3 hy3
        have hsh : Hid (shT us.length y = ⟨3, y.v, y.a + us.length, y.b + us.length, y.c0, y.c1, y.c2, y.c3, y.t⟩) := Lib.hid (by unfold shT; rw [if_pos hy3, ← hy3])
        rw [hy3] at y0
        clear hc3
        go_wp2_with (at_builtin; refine op_tyh rfl (.tmp 64) (.tmp 66) _ W W0.heap.size hsW (by (repeat' (first | with_reducible exact Below.refl _ _ | with_reducible assumption | with_reducible apply Below.setCell | with_reducible apply Below.alloc | with_reducible apply Below.drew | with_reducible apply below_drewN | with_reducible exact Nat.le_refl _ | (simp; done) | (simp; omega) | omega | exact Nat.le_refl _))) _ L ⟨3, y.v, y.a + us.length, y.b + us.length, y.c0, y.c1, y.c2, y.c3, y.t⟩ _ rfl rfl _ (by first | (simp; done) | (simp; omega)) rfl rfl hJ1.out (by omega) ?_)
        intro g3 c3 w3 hO3 hBar3 hM3
        have hJ3 : Hid (OwnT W0.heap.size w3 (.slice (some ⟨g3, 0, none⟩) (us.length + m + 1) c3) (us ++ (bs.take (m + 1)).map (shT us.length)) ∧ Below W0.heap.size W0 w3) := Lib.hid ⟨by rw [htk2.out, hsh.out, ← List.append_assoc, hL2.out]; (first | exact hO3 | (rw [hOl] at hO3; exact hO3)), hJ2.out.trans (bar_belO hBar3 hJ1.out hsW)⟩
        clear hO3 hBar3 hM3
        (try rw [hOl])
        go_wp2_with fail
        go_roundw
        case rel => exact ⟨m + 1, by omega, by go_num, hJ3⟩
        case measure => simp [intOf]; omega
      · have hsh : Hid (shT us.length y = y) := Lib.hid (by unfold shT; rw [if_neg hy3])
        have hy4 : (y.k == 3) = false := beq_eq_false_iff_ne.2 hy3
        clear hc3 hy3
        go_wp2_with (at_builtin; refine op_tyh rfl (.tmp 64) (.tmp 66) _ W W0.heap.size hsW (by (repeat' (first | with_reducible exact Below.refl _ _ | with_reducible assumption | with_reducible apply Below.setCell | with_reducible apply Below.alloc | with_reducible apply Below.drew | with_reducible apply below_drewN | with_reducible exact Nat.le_refl _ | (simp; done) | (simp; omega) | omega | exact Nat.le_refl _))) _ L y _ rfl rfl _ (by first | (simp; done) | (simp; omega)) rfl rfl hJ1.out (by omega) ?_)
        intro g3 c3 w3 hO3 hBar3 hM3
        have hJ3 : Hid (OwnT W0.heap.size w3 (.slice (some ⟨g3, 0, none⟩) (us.length + m + 1) c3) (us ++ (bs.take (m + 1)).map (shT us.length)) ∧ Below W0.heap.size W0 w3) := Lib.hid ⟨by rw [htk2.out, hsh.out, ← List.append_assoc, hL2.out]; (first | exact hO3 | (rw [hOl] at hO3; exact hO3)), hJ2.out.trans (bar_belO hBar3 hJ1.out hsW)⟩
        clear hO3 hBar3 hM3
        (try rw [hOl])
        go_wp2_with fail
        go_roundw
        case rel => exact ⟨m + 1, by omega, by go_num, hJ3⟩
        case measure => simp [intOf]; omega
    · obtain rfl : m = bs.length := by omega
      have hLf : Hid (L = us ++ bs.map (shT us.length)) := Lib.hid (by rw [← hL2.out, List.take_length])
      go_wp2_with (at_builtin; refine op_tyh rfl (.tmp 78) (.tmp 80) _ W W0.heap.size hsW (by (repeat' (first | with_reducible exact Below.refl _ _ | with_reducible assumption | with_reducible apply Below.setCell | with_reducible apply Below.alloc | with_reducible apply Below.drew | with_reducible apply below_drewN | with_reducible exact Nat.le_refl _ | (simp; done) | (simp; omega) | omega | exact Nat.le_refl _))) _ L (fnT ((us.length : Int) - 1) (((us.length + bs.length : Nat) : Int) - 1) r) _ rfl rfl _ (by first | (simp; done) | (simp; omega)) rfl (by first | rfl | simp [tyL1, fnT]) hJ1.out (by omega) ?_)
      intro g3 c3 w3 hO3 hBar3 hM3
      have hB3 := Lib.hid (hJ2.out.trans (bar_belO hBar3 hJ1.out hsW))
      have hO3' : Hid (OwnT W0.heap.size w3 (.slice (some ⟨g3, 0, none⟩) (L.length + 1) c3) (arwL us r bs)) := Lib.hid (by unfold arwL; rw [← hLf.out]; rw [show L.length + 1 = us.length + bs.length + 1 from by omega]; (first | exact hO3 | (rw [Int.natCast_add]; exact hO3)))
      clear hO3 hBar3 hM3 x0 x1 x2 x3 x4 x5 x6 x7 x8 x9 x10 x11
      have hA3 := Lib.hid (hW0.out.below hB3.out)
      obtain ⟨x0, x1, x2, x8, x9, x10, x11⟩ := hA3.out
      have hw0 := hW0.out.1
      have x12 : w.heap.size + 1 + 1 + 1 < w3.heap.size := by omega
      go_wp2_with fail
      refine bodyPost_ret (v := .tuple #[.agg #[.slice (some ⟨g3, 0, none⟩) (us.length + bs.length + 1) c3], .int .i64 0]) (by simp [results, Tryd.results22, go_sem, x10, setS x9]) rfl ⟨_, rfl, ownT_le (ownT_put (by first | exact hO3'.out | (have e := hO3'.out; rw [hOl] at e; exact e)) (by omega)) (by omega), x11.setCell (by show w.heap.size ≤ w.heap.size + 1 + 1 + 1; omega) _⟩
theorem fun_any (a1 : Option Addr) (n1 c1 : Nat) (r : Rw) (a2 : Option Addr) (n2 c2 : Nat) (us bs : List Ty) (w : World) (h1 : Hid (TyArg w a1 n1 us)) (h2 : Hid (TyArg w a2 n2 bs)) (hl : n1 ≤ 140737488351232) (hl2 : n2 ≤ 140737488351232) :
    Calls Tryd.prog 22 #[.agg #[.slice a1 n1 c1], .agg #[.int .i64 r.a, .int .i64 r.b, .int .i64 r.c, .int .i64 r.d, .int .i64 r.t], .agg #[.slice a2 n2 c2]] w (FunPost us r bs w) := by
  cases h : funOk us r bs
  · exact fun_bad a1 n1 c1 r a2 n2 c2 us bs w h1 h2 hl hl2 h
  · exact fun_good a1 n1 c1 r a2 n2 c2 us bs w h1 h2 h
end Go.Proofs.YtdganhamafhfdaaDoor

/- A function's variables: plain facts. -/
namespace Go.Proofs.YtdganhamafhfdaaDoor
open Go.RowKit
set_option linter.unusedVariables false
set_option linter.unusedSimpArgs false

theorem arw_fl {us bs : List Ty} {r : Rw} (h1 : tyV us = true) (h2 : tyV bs = true) : fl 0 (TT.fn (treeOf us) r (treeOf bs)) = arwL us r bs := by
  have h1 := tyV_of h1
  have h2 := tyV_of h2
  have e1 : bs.map (shT us.length) = fl (treeOf us).sz (treeOf bs) := by
    have := sh_fl (treeOf us).sz (treeOf bs) 0 h2.1
    rw [← h2.2.1, h1.2.2.1] at this
    rw [this, h1.2.2.1]; simp
  unfold arwL
  rw [e1, fl_fn, ← h1.2.1, h1.2.2.1, h2.2.2.1]
  simp
theorem arw_V {us bs : List Ty} {r : Rw} (h : funOk us r bs = true) : tyV us = true ∧ tyV bs = true ∧ tyV (arwL us r bs) = true ∧ treeOf (arwL us r bs) = .fn (treeOf us) r (treeOf bs) ∧ (arwL us r bs).length = us.length + bs.length + 1 := by
  unfold funOk at h
  simp only [Bool.and_eq_true, decide_eq_true_eq] at h
  obtain ⟨⟨⟨h1, h2⟩, h3⟩, h4⟩ := h
  have g1 := tyV_of h1
  have g2 := tyV_of h2
  have hok : (TT.fn (treeOf us) r (treeOf bs)).ok = true := by unfold TT.ok; rw [g1.1, g2.1, h3]; rfl
  have hsz : (TT.fn (treeOf us) r (treeOf bs)).sz ≤ 256 := by unfold TT.sz; rw [g1.2.2.1, g2.2.2.1]; omega
  rw [← arw_fl h1 h2]
  refine ⟨h1, h2, fl_may hok hsz, treeOf_fl hok, ?_⟩
  rw [fl_len]; unfold TT.sz; rw [g1.2.2.1, g2.2.2.1]
theorem addI_add {l m : List Int} (h : ∀ x ∈ m, x ∈ l) (v : Int) : (addI l v).length + m.length ≤ (addI m v).length + l.length ∧ ∀ x ∈ addI m v, x ∈ addI l v := by
  refine ⟨?_, fun x hx => ?_⟩
  · cases hl : hasI l v
    · have hm : hasI m v = false := by
        cases hm : hasI m v
        · rfl
        · have := h v ((hasI_iff m v).1 hm)
          rw [(hasI_iff l v).2 this] at hl; cases hl
      unfold addI
      rw [hl, hm]
      simp
      omega
    · have := (addI_len m v).1
      have e : addI l v = l := by unfold addI; rw [hl]; rfl
      rw [e]; omega
  · rw [addI_mem] at hx ⊢
    rcases hx with hx | hx
    · exact .inl (h x hx)
    · exact .inr hx
theorem addT_add {l m : List Int} (h : ∀ x ∈ m, x ∈ l) (v : Int) : (addT l v).length + m.length ≤ (addT m v).length + l.length ∧ ∀ x ∈ addT m v, x ∈ addT l v := by
  unfold addT
  by_cases hv : v < 0
  · rw [if_pos hv, if_pos hv]; exact ⟨by omega, h⟩
  · rw [if_neg hv, if_neg hv]; exact addI_add h v
theorem tvs_add : ∀ (T : TT) (l m : List Int), (∀ x ∈ m, x ∈ l) → (tvs T l).length + m.length ≤ (tvs T m).length + l.length ∧ ∀ x ∈ tvs T m, x ∈ tvs T l
  | .base _, l, m, h => ⟨by show l.length + m.length ≤ m.length + l.length; omega, h⟩
  | .var v, l, m, h => addI_add h v
  | .fn a r b, l, m, h => by
    obtain ⟨h1, h2⟩ := tvs_add a l m h
    obtain ⟨h3, h4⟩ := tvs_add b _ _ h2
    exact ⟨by show (tvs b (tvs a l)).length + _ ≤ (tvs b (tvs a m)).length + _; omega, h4⟩
theorem rvs_add : ∀ (T : TT) (l m : List Int), (∀ x ∈ m, x ∈ l) → (rvs T l).length + m.length ≤ (rvs T m).length + l.length ∧ ∀ x ∈ rvs T m, x ∈ rvs T l
  | .base _, l, m, h => ⟨by show l.length + m.length ≤ m.length + l.length; omega, h⟩
  | .var v, l, m, h => ⟨by show l.length + m.length ≤ m.length + l.length; omega, h⟩
  | .fn a r b, l, m, h => by
    obtain ⟨h1, h2⟩ := rvs_add a l m h
    obtain ⟨h5, h6⟩ := addT_add h2 r.t
    obtain ⟨h3, h4⟩ := rvs_add b _ _ h6
    exact ⟨by show (rvs b (addT (rvs a l) r.t)).length + _ ≤ (rvs b (addT (rvs a m) r.t)).length + _; omega, h4⟩
theorem take_pre {l e m : List Int} (h : m = l ++ e) : m.take l.length = l := by rw [h, List.take_left]
/-- what is seen of a function and its parts. -/
theorem gr_yes {us bs : List Ty} {r : Rw} (h : funOk us r bs = true) {A B C D X Y : List Int} (hA : tvs (treeOf us) [] = A) (hB : rvs (treeOf us) [] = B) (hC : tvs (treeOf bs) [] = C) (hD : rvs (treeOf bs) [] = D) (hX : tvs (treeOf (arwL us r bs)) [] = X) (hY : rvs (treeOf (arwL us r bs)) [] = Y) :
    (A.length ≤ X.length ∧ X.take A.length = A ∧ X.length ≤ A.length + C.length) ∧ (B.length ≤ Y.length ∧ Y.take B.length = B ∧ Y.length ≤ B.length + D.length + 1) := by
  rw [(arw_V h).2.2.2.1] at hX hY
  have hX : tvs (treeOf bs) A = X := by rw [← hX, ← hA]; rfl
  have hY : rvs (treeOf bs) (addT B r.t) = Y := by rw [← hY, ← hB]; rfl
  obtain ⟨e1, p1⟩ := tvs_pre (treeOf bs) A
  obtain ⟨e2, p2⟩ := rvs_pre (treeOf bs) (addT B r.t)
  obtain ⟨e3, p3⟩ := addT_pre B r.t
  have t1 := (tvs_add (treeOf bs) A [] (fun _ h => by cases h)).1
  have t2 := (rvs_add (treeOf bs) (addT B r.t) [] (fun _ h => by cases h)).1
  have t3 := (addT_len B r.t).2
  have t4 := (tvs_len (treeOf bs) A).1
  have t5 := (rvs_len (treeOf bs) (addT B r.t)).1
  have t6 := (addT_len B r.t).1
  rw [hC] at t1
  rw [hD] at t2
  rw [hX] at p1 t1 t4
  rw [hY] at p2 t2 t5
  simp only [List.length_nil, Nat.add_zero] at t1 t2
  refine ⟨⟨t4, take_pre p1, by omega⟩, ⟨by omega, take_pre (by rw [p2, p3, List.append_assoc]), by omega⟩⟩
theorem is_to (a : Option Addr) (m c n : Nat) (h : n ≤ c) (W : World) : (Instr.slice 34 (.slice a m c) none (some (.int .i64 n)) none).run Tryd.prog W = .ok (.slice a n c) W := by
  have hs : ∀ W : World, (sizeOf 3).run Tryd.prog W = .ok 1 W := fun _ => by kernel_rfl
  have he : Tryd.prog.elem 34 = 3 := by kernel_rfl
  rw [run_slice_h W 34 a m c (by rw [he]; exact Tryd.underlying34) .i64 (n : Int) (by omega) (by omega), he, hs]
  cases a <;> simp [Result.andThen, sliced, Addr.add]
theorem isArg_pre {w : World} {a : Option Addr} {m n : Nat} {l k : List Int} (h : IsArg w a m l) (hk : l.take n = k) (hn : n ≤ l.length) : IsArg w a n k := by
  subst hk
  obtain ⟨h1, h2⟩ := h
  refine ⟨by rw [List.length_take]; omega, ?_⟩
  rcases h2 with rfl | ⟨b, off, rfl, h3, h4⟩
  · exact .inl (by simp)
  · refine .inr ⟨b, off, rfl, fun i hi => ?_, h4⟩
    rw [List.length_take] at hi
    have := h3 i (by omega)
    rw [List.getD_eq_getElem?_getD] at this ⊢
    rw [List.getElem?_take_of_lt (by omega)]
    exact this
theorem ownI_cap {B : Nat} {w : World} {a : Option Addr} {n c : Nat} {l : List Int} (h : OwnI B w (.slice a n c) l) : l.length ≤ c := by
  rcases h.cases with ⟨h1, rfl⟩ | ⟨g, c', h1, _, _, h4, _⟩
  · simp
  · injection h1 with _ _ h1; subst h1; exact h4
end Go.Proofs.YtdganhamafhfdaaDoor

/- Layer 7's awake. -/
namespace Go.Proofs.YtdganhamafhfdaaDoor
open Go.RowKit Go.Maps
set_option linter.unusedVariables false
set_option linter.unusedSimpArgs false

def r7 : Rw := ⟨0, 2, 0, 0, 3⟩
def v7 : List Ty := [⟨2, 7, 0, 0, 0, 0, 0, 0, 0⟩]
def f7 : List Ty := [⟨2, 7, 0, 0, 0, 0, 0, 0, 0⟩, ⟨2, 7, 0, 0, 0, 0, 0, 0, 0⟩, ⟨3, 0, 0, 1, 0, 2, 0, 0, 3⟩]
theorem fa1 : funT v7 r7 v7 = f7 ∧ funE v7 r7 v7 = 0 := ⟨by kernel_rfl, by kernel_rfl⟩
theorem fa2 : tyV f7 = true ∧ tvs (treeOf f7) [] = [7] ∧ rvs (treeOf f7) [] = [3] := ⟨by kernel_rfl, by kernel_rfl, by kernel_rfl⟩
theorem it0 : Lib.itoa ((0 : Nat) : Int) = [48] := by unfold Lib.itoa; rw [if_neg (by omega)]; exact ddi 0 (by omega)
theorem fa3 : txV f7 = ⟨#[40, 116, 48, 32, 45, 60, 111, 49, 44, 111, 49, 124, 101, 48, 62, 32, 116, 48, 41]⟩ ∧ txE f7 = 0 := by
  unfold txV txE
  rw [fa2.1]
  refine ⟨?_, rfl⟩
  have e : tx (treeOf f7) [] [] = [40] ++ (116 :: Lib.itoa ((0 : Nat) : Int)) ++ ([32, 45] ++ rwT r7 (Lib.itoa ((0 : Nat) : Int)) ++ [32]) ++ (116 :: Lib.itoa ((0 : Nat) : Int)) ++ [41] := rfl
  rw [if_pos rfl, e, it0, show rwT r7 [48] = [60, 111, 49, 44, 111, 49, 124, 101, 48, 62] from by kernel_rfl]
  rfl
theorem fa4 : txV [] = ⟨#[]⟩ ∧ txE [] = 700 := ⟨by unfold txV; rfl, by unfold txE; rfl⟩
set_option maxRecDepth 100000 in
set_option maxHeartbeats 8000000 in
theorem awake7_any (w : World) (hT : Hid (TabW w)) : Calls Tryd.prog 31 #[] w fun e w' => e = .returned (.bool true) ∧ Below w.heap.size w w' := by
  go_enter Tryd.func31, Tryd.ntmps31
  go_wp2_with fail
  refine (fun_any _ _ _ r7 _ _ _ v7 v7 _ (Lib.hid (by exact TyArg.alloc _ (TyArg.alloc _ (tyArg_lit _ _ _ _ _ _ rfl rfl rfl)))) (Lib.hid (by exact TyArg.alloc _ (TyArg.alloc _ (tyArg_lit _ _ _ _ _ _ rfl rfl rfl)))) (by omega) (by omega)).mono ?_
  rintro e w1 ⟨v, rfl, hv, hb1⟩
  rw [fa1.1] at hv
  rw [fa1.2]
  obtain ⟨a1, m1, d1, rfl⟩ := ownT_sl hv
  obtain rfl : m1 = 3 := hv.arg.1
  have hF := Lib.hid (hv.arg.alloc (.cells #[.slice a1 3 d1] 24))
  have hX := Lib.hid (box_lit w1 24 w1.heap.size (.slice a1 3 d1) rfl)
  have hB := Lib.hid (belA (.cells #[.slice a1 3 d1] 24) (belT (show Below w.heap.size w _ from by (repeat' (first | with_reducible exact Below.refl _ _ | with_reducible assumption | with_reducible apply Below.setCell | with_reducible apply Below.alloc | with_reducible apply Below.drew | with_reducible apply below_drewN | with_reducible exact Nat.le_refl _ | (simp; done) | (simp; omega) | omega | exact Nat.le_refl _))) hb1))
  clear hb1 hv
  go_wp2_with fail
  refine (tyText_any _ _ _ f7 _ hF (by omega) (Lib.hid (tab_keep hT.out hB.out (Nat.le_refl _)))).mono ?_
  rintro e w2 ⟨rfl, hb⟩
  rw [fa3.1, fa3.2]
  have hF := Lib.hid (hF.out.below hb)
  have hX := Lib.hid (hX.out.below hb)
  have hB := Lib.hid (belT hB.out hb)
  clear hb
  obtain ⟨x0, x1⟩ := hX.out
  go_wp2_with fail
  clear x0 x1
  refine (vars_any _ _ _ f7 _ hF (by omega)).mono ?_
  rintro e w3 hp
  unfold VarsPost at hp
  rw [fa2.1, fa2.2.1, fa2.2.2, if_pos rfl] at hp
  obtain ⟨u1, u2, rfl, hu1, hu2, _, hb⟩ := hp
  obtain ⟨a2, m2, d2, rfl⟩ := ownI_sl hu1
  obtain ⟨a3, m3, d3, rfl⟩ := ownI_sl hu2
  obtain rfl : m2 = 1 := hu1.arg.1
  obtain rfl : m3 = 1 := hu2.arg.1
  have hI := Lib.hid hu1.arg
  have hJ := Lib.hid hu2.arg
  have hF := Lib.hid (hF.out.below hb)
  have hX := Lib.hid (hX.out.below hb)
  have hB := Lib.hid (belT hB.out hb)
  clear hb hu1 hu2
  go_wp2_with fail
  refine (tyText_any _ _ _ [] _ (Lib.hid (tyArg_nil _ _)) (by omega) (Lib.hid (tab_keep hT.out hB.out (Nat.le_refl _)))).mono ?_
  rintro e w4 ⟨rfl, hb⟩
  rw [fa4.1, fa4.2]
  have hI := Lib.hid (hI.out.below hb)
  have hJ := Lib.hid (hJ.out.below hb)
  have hF := Lib.hid (hF.out.below hb)
  have hX := Lib.hid (hX.out.below hb)
  have hB := Lib.hid (belT hB.out hb)
  clear hb
  obtain ⟨x0, x1⟩ := hX.out
  have hq : ((⟨#[40, 116, 48, 32, 45, 60, 111, 49, 44, 111, 49, 124, 101, 48, 62, 32, 116, 48, 41]⟩ : ByteArray).toList == (⟨#[40, 116, 48, 32, 45, 60, 111, 49, 44, 111, 49, 124, 101, 48, 62, 32, 116, 48, 41]⟩ : ByteArray).toList) = true := beq_self_eq_true _
  go_wp2_with (first | (go_at_call 24; refine (num_any _ _ (by omega) (by omega)).mono ?_; rintro e w' ⟨rfl, rfl⟩))
  clear x0 x1 hq
  refine (sameInts_any _ _ _ _ _ _ [7] [7] _ (Lib.hid (by exact IsArg.alloc _ hI.out)) (Lib.hid (by exact isArg_lit _ _ _ _ _ _ rfl rfl rfl)) (by omega)).mono ?_
  rintro e w5 ⟨rfl, hb⟩
  rw [decide_eq_true rfl]
  have hJ := Lib.hid ((hJ.out.alloc _).below hb)
  have hF := Lib.hid ((hF.out.alloc _).below hb)
  have hX := Lib.hid ((hX.out.alloc _).below hb)
  have hB := Lib.hid (belT (belA _ hB.out) hb)
  clear hb hI
  go_wp2_with fail
  refine (sameInts_any _ _ _ _ _ _ [3] [3] _ (Lib.hid (by exact IsArg.alloc _ hJ.out)) (Lib.hid (by exact isArg_lit _ _ _ _ _ _ rfl rfl rfl)) (by omega)).mono ?_
  rintro e w6 ⟨rfl, hb⟩
  rw [decide_eq_true rfl]
  have hF := Lib.hid ((hF.out.alloc _).below hb)
  have hX := Lib.hid ((hX.out.alloc _).below hb)
  have hB := Lib.hid (belT (belA _ hB.out) hb)
  clear hb hJ
  obtain ⟨x0, x1⟩ := hX.out
  go_wp2_with (first | (go_at_call 24; refine (num_any _ _ (by omega) (by omega)).mono ?_; rintro e w' ⟨rfl, rfl⟩))
  clear x0 x1
  refine (tyMay_any _ _ _ f7 _ hF (by omega)).mono ?_
  rintro e w7 ⟨rfl, hb⟩
  rw [fa2.1]
  have hB := Lib.hid (belT hB.out hb)
  clear hb hF hX
  go_wp2_with fail
  refine (tyMay_any _ _ _ [] _ (Lib.hid (tyArg_nil _ _)) (by omega)).mono ?_
  rintro e w8 ⟨rfl, hb⟩
  rw [show tyV [] = false from by kernel_rfl]
  have hB := Lib.hid (belT hB.out hb)
  clear hb
  go_wp2_with fail
  go_ret
  exact ⟨rfl, hB.out⟩
end Go.Proofs.YtdganhamafhfdaaDoor

/- The reference's Arrow, MakeFun and TypeVars. -/
namespace Go.Proofs.YtdganhamafhfdaaDoor
open Go.RowKit Go.Maps
set_option linter.unusedVariables false
set_option linter.unusedSimpArgs false

/-- the memory that Arrow has of its own. -/
def AkW (w : World) (r : Rw) (a1 : Option Addr) (n1 c1 : Nat) (a2 : Option Addr) (n2 c2 : Nat) (W : World) : Prop :=
  w.heap.size + 3 < W.heap.size ∧ W.cell? ⟨w.heap.size, 0, none⟩ = some (.slice a1 n1 c1) ∧ RowAt W (w.heap.size + 1) r ∧ W.cell? ⟨w.heap.size + 1 + 1, 0, none⟩ = some (.slice a2 n2 c2) ∧ W.cell? ⟨w.heap.size + 1 + 1 + 1, 0, none⟩ = some (.slice none 0 0) ∧ W.frozen? ⟨w.heap.size + 1 + 1 + 1, 0, none⟩ = false ∧ Below w.heap.size w W
theorem AkW.below {w W W' : World} {r : Rw} {a1 a2 : Option Addr} {n1 c1 n2 c2 : Nat} (h : AkW w r a1 n1 c1 a2 n2 c2 W) (hb : Below W.heap.size W W') : AkW w r a1 n1 c1 a2 n2 c2 W' := by
  obtain ⟨h0, h1, h2, h3, h4, h5, h6⟩ := h
  exact ⟨by have := hb.size; omega, carry hb (by omega) h1, h2.below hb, carry hb (by omega) h3, carry hb (by omega) h4, by rw [hb.frozen (p := ⟨w.heap.size + 1 + 1 + 1, 0, none⟩) (show w.heap.size + 1 + 1 + 1 < W.heap.size by omega)]; exact h5, belT h6 hb⟩
theorem akW_mk (w : World) (r : Rw) (a1 : Option Addr) (n1 c1 : Nat) (a2 : Option Addr) (n2 c2 : Nat) : AkW w r a1 n1 c1 a2 n2 c2 ((((w.alloc (.cells #[.slice a1 n1 c1] 24)).alloc (.cells #[.int .i64 r.a, .int .i64 r.b, .int .i64 r.c, .int .i64 r.d, .int .i64 r.t] 27)).alloc (.cells #[.slice a2 n2 c2] 24)).alloc (.cells #[.slice none 0 0] 24)) :=
  ⟨by simp, (BoxAt.alloc _ (BoxAt.alloc _ (BoxAt.alloc _ (box_lit w _ _ _ rfl)))).2, RowAt.alloc _ (RowAt.alloc _ (row_lit (w.alloc _) _ _ r (by simp))), (BoxAt.alloc _ (box_lit ((w.alloc _).alloc _) _ _ _ (by simp))).2, (box_lit (((w.alloc _).alloc _).alloc _) _ _ _ (by simp)).2, by simp [go_sem], belA _ (belA _ (below_alc2 w _ _))⟩
def AkPost (us : List Ty) (r : Rw) (bs : List Ty) (w : World) (e : Ending) (w' : World) : Prop := ∃ v, e = .returned (.agg #[v]) ∧ OwnT w.heap.size w' v (arwL us r bs) ∧ Below w.heap.size w w'
set_option maxRecDepth 100000 in
set_option maxHeartbeats 8000000 in
theorem arrow7_any (a1 : Option Addr) (n1 c1 : Nat) (r : Rw) (a2 : Option Addr) (n2 c2 : Nat) (us bs : List Ty) (w : World) (h1 : Hid (TyArg w a1 n1 us)) (h2 : Hid (TyArg w a2 n2 bs)) (ha0 : us ≠ []) (ha : tyV us = true) (hb : tyV bs = true) :
    Calls Tryd.prog 55 #[.agg #[.slice a1 n1 c1], .agg #[.int .i64 r.a, .int .i64 r.b, .int .i64 r.c, .int .i64 r.d, .int .i64 r.t], .agg #[.slice a2 n2 c2]] w (AkPost us r bs w) := by
  have hla := tyV_le ha
  have hlb := tyV_le hb
  have hch := Lib.hid fun (m : Nat) (hm : m < bs.length) (h3 : (bs.getD m ty0).k = 3) => tyV_child hb hm h3
  obtain ⟨rfl, hA1⟩ := h1.out
  obtain ⟨rfl, hA2⟩ := h2.out
  obtain ⟨b1, off1, rfl, hS1, hb1⟩ := Or.resolve_left hA1 ha0
  obtain ⟨b2, off2, rfl, hS2, hb2⟩ : ∃ b off, a2 = some ⟨b, off, none⟩ ∧ TySl w b off bs ∧ b < w.heap.size := by
    rcases hA2 with h0 | h0
    · rw [h0] at hlb; simp at hlb
    · exact h0
  have hS2 := Lib.hid hS2
  have hW0 := Lib.hid (akW_mk w r (some ⟨b1, off1, none⟩) us.length c1 (some ⟨b2, off2, none⟩) bs.length c2)
  obtain ⟨i0, hi, hz0, hz1, hz2⟩ := info_parts infoTy
  have hown0 := Lib.hid (OwnT.fresh ((((w.alloc (.cells #[.slice (some ⟨b1, off1, none⟩) us.length c1] 24)).alloc (.cells #[.int .i64 r.a, .int .i64 r.b, .int .i64 r.c, .int .i64 r.d, .int .i64 r.t] 27)).alloc (.cells #[.slice (some ⟨b2, off2, none⟩) bs.length c2] 24)).alloc (.cells #[.slice none 0 0] 24)))
  have hnews : Hid (∀ j u, (tyL us)[j]? = some u → (((((w.alloc (.cells #[.slice (some ⟨b1, off1, none⟩) us.length c1] 24)).alloc (.cells #[.int .i64 r.a, .int .i64 r.b, .int .i64 r.c, .int .i64 r.d, .int .i64 r.t] 27)).alloc (.cells #[.slice (some ⟨b2, off2, none⟩) bs.length c2] 24)).alloc (.cells #[.slice none 0 0] 24)).alloc (.cells #[] 52)).cell? ((⟨b1, off1, none⟩ : Addr).add j) = some u) := Lib.hid (by
    intro j u hj
    have e : (⟨b1, off1, none⟩ : Addr).add j = ⟨b1, off1 + j, none⟩ := by simp [Addr.add]; try omega
    rw [e]
    have := tySl_get (hS1.below (belA (.cells #[] 52) hW0.out.2.2.2.2.2.2) hb1) j u hj
    exact this)
  clear hA1 hA2 ha hb
  go_enter Tryd.func55, Tryd.ntmps55
  go_upto_region 2 with fail
  obtain ⟨W0, hW0e⟩ : ∃ W, ((((w.alloc (.cells #[.slice (some ⟨b1, off1, none⟩) us.length c1] 24)).alloc (.cells #[.int .i64 r.a, .int .i64 r.b, .int .i64 r.c, .int .i64 r.d, .int .i64 r.t] 27)).alloc (.cells #[.slice (some ⟨b2, off2, none⟩) bs.length c2] 24)).alloc (.cells #[.slice none 0 0] 24)) = W := ⟨_, rfl⟩
  rw [hW0e] at hW0 hown0 hnews ⊢
  clear hW0e
  obtain ⟨x0, x1, ⟨x2, x3, x4, x5, x6, x7⟩, x8, x9, x10, x11⟩ := hW0.out
  have z0 : w.heap.size < W0.heap.size := by omega
  have z1 : w.heap.size < W0.heap.size + 1 := by omega
  have z2 : w.heap.size + 1 < W0.heap.size := by omega
  have z3 : w.heap.size + 1 < W0.heap.size + 1 := by omega
  have z4 : w.heap.size + 1 + 1 < W0.heap.size := by omega
  have z5 : w.heap.size + 1 + 1 < W0.heap.size + 1 := by omega
  have z6 : w.heap.size + 1 + 1 + 1 < W0.heap.size := by omega
  have z7 : w.heap.size + 1 + 1 + 1 < W0.heap.size + 1 := by omega
  go_wp2_with (at_builtin; refine wpList_append_own _ rfl (.tmp 14) (.tmp 16) 22 rfl W0.heap.size 52 i0 (.agg #[.int .i64 0, .int .i64 0, .int .i64 0, .int .i64 0, .int .i64 0, .int .i64 0, .int .i64 0, .int .i64 0, .int .i64 0]) 9 72 Tryd.underlying22 hi hz0 hz1 hz2 rfl (by decide) _ 0 [] rfl hown0.out ⟨b1, off1, none⟩ us.length c1 (tyL us) rfl (tyL_len us) hnews.out (tyL_one us) (by unfold maxLen; omega) (by omega) (by simp) ?_)
  intro v' w1 hown1 hgr _
  (try rw [Nat.zero_add, List.nil_append] at hown1)
  have hB1 : Hid (Below W0.heap.size W0 w1) := Lib.hid (((Below.refl _ _).alloc (Nat.le_refl _) _).grown hgr (by simp) (by intro k hk; simp [Value.ownBlock] at hk; omega))
  have hown1' := Lib.hid (show OwnT W0.heap.size w1 v' us from hown1)
  have hA1 := Lib.hid (hW0.out.below hB1.out)
  clear hown1 hgr z0 z1 z2 z3 z4 z5 z6 z7 x0 x1 x2 x3 x4 x5 x6 x7 x8 x9 x10 x11
  obtain ⟨x0, x1, ⟨x2, x3, x4, x5, x6, x7⟩, x8, x9, x10, x11⟩ := hA1.out
  go_wp2_with fail
  clear x0 x1 x2 x3 x4 x5 x6 x7 x8 x9 x10 x11
  go_loopw [8, 9] (fun v i W => ∃ m : Nat, m ≤ bs.length ∧ i = .int .i64 m ∧ Hid (OwnT W0.heap.size W v (us ++ (bs.take m).map (shT us.length)) ∧ Below W0.heap.size W0 W)) (fun _ i _ => bs.length - (intOf i).toNat)
  case atStart => exact ⟨0, by omega, rfl, Lib.hid ⟨by rw [List.take_zero, List.map_nil, List.append_nil]; exact hown1'.out, hB1.out⟩⟩
  case round =>
    rename World => W
    obtain ⟨m, hm, rfl, hJ⟩ := hrel
    have hAW := Lib.hid (hW0.out.below hJ.out.2)
    obtain ⟨x0, x1, ⟨x2, x3, x4, x5, x6, x7⟩, x8, x9, x10, x11⟩ := hAW.out
    have hsW := hJ.out.2.size
    have z0 : w.heap.size < W.heap.size := by omega
    have z1 : w.heap.size < W.heap.size + 1 := by omega
    have z2 : w.heap.size + 1 < W.heap.size := by omega
    have z3 : w.heap.size + 1 < W.heap.size + 1 := by omega
    have z4 : w.heap.size + 1 + 1 < W.heap.size := by omega
    have z5 : w.heap.size + 1 + 1 < W.heap.size + 1 := by omega
    have z6 : w.heap.size + 1 + 1 + 1 < W.heap.size := by omega
    have z7 : w.heap.size + 1 + 1 + 1 < W.heap.size + 1 := by omega
    have hOl : (us ++ (bs.take m).map (shT us.length)).length = us.length + m := by rw [List.length_append, List.length_map, List.length_take]; omega
    obtain ⟨va, vn, vc, hveq⟩ := ownT_sl hJ.out.1
    subst hveq
    have hvn : vn = us.length + m := by rw [← hOl]; exact hJ.out.1.arg.1
    subst hvn
    obtain ⟨L, hL⟩ : ∃ L, us ++ (bs.take m).map (shT us.length) = L := ⟨_, rfl⟩
    have hJ1 := Lib.hid hJ.out.1
    have hJ2 := Lib.hid hJ.out.2
    rw [hL] at hJ1 hOl
    have hL2 := Lib.hid hL
    clear hL hJ
    by_cases hmy : m < bs.length
    · have hN := hS2.out.below x11 hb2 m hmy
      have hc3 := hch.out m hmy
      have htk2 := Lib.hid (take_map (shT us.length) bs ty0 hmy)
      generalize bs.getD m ty0 = y at hN hc3 htk2
      obtain ⟨y0, y1, y2, y3, y4, y5, y6, y7, y8⟩ := hN
      have hmy' : (m : Int) < (bs.length : Int) := by omega
      have hm0 : (0 : Int) ≤ (m : Int) := by omega
      have hybs : b2 < W.heap.size := by omega
      by_cases hy3 : y.k = 3
      · obtain ⟨ha0', ha1', hb0', hb1'⟩ := hc3 hy3
        have hsh : Hid (shT us.length y = ⟨3, y.v, y.a + us.length, y.b + us.length, y.c0, y.c1, y.c2, y.c3, y.t⟩) := Lib.hid (by unfold shT; rw [if_pos hy3, ← hy3])
        rw [hy3] at y0
        clear hc3
        go_wp2_with (at_builtin; refine op_tyh rfl (.tmp 43) (.tmp 45) _ W W0.heap.size hsW (by (repeat' (first | with_reducible exact Below.refl _ _ | with_reducible assumption | with_reducible apply Below.setCell | with_reducible apply Below.alloc | with_reducible apply Below.drew | with_reducible apply below_drewN | with_reducible exact Nat.le_refl _ | (simp; done) | (simp; omega) | omega | exact Nat.le_refl _))) _ L ⟨3, y.v, y.a + us.length, y.b + us.length, y.c0, y.c1, y.c2, y.c3, y.t⟩ _ rfl rfl _ (by first | (simp; done) | (simp; omega)) rfl rfl hJ1.out (by omega) ?_)
        intro g3 c3 w3 hO3 hBar3 hM3
        have hJ3 : Hid (OwnT W0.heap.size w3 (.slice (some ⟨g3, 0, none⟩) (us.length + m + 1) c3) (us ++ (bs.take (m + 1)).map (shT us.length)) ∧ Below W0.heap.size W0 w3) := Lib.hid ⟨by rw [htk2.out, hsh.out, ← List.append_assoc, hL2.out]; (first | exact hO3 | (rw [hOl] at hO3; exact hO3)), hJ2.out.trans (bar_belO hBar3 hJ1.out hsW)⟩
        clear hO3 hBar3 hM3
        (try rw [hOl])
        go_wp2_with fail
        go_roundw
        case rel => exact ⟨m + 1, by omega, by go_num, hJ3⟩
        case measure => simp [intOf]; omega
      · have hsh : Hid (shT us.length y = y) := Lib.hid (by unfold shT; rw [if_neg hy3])
        have hy4 : (y.k == 3) = false := beq_eq_false_iff_ne.2 hy3
        clear hc3 hy3
        go_wp2_with (at_builtin; refine op_tyh rfl (.tmp 43) (.tmp 45) _ W W0.heap.size hsW (by (repeat' (first | with_reducible exact Below.refl _ _ | with_reducible assumption | with_reducible apply Below.setCell | with_reducible apply Below.alloc | with_reducible apply Below.drew | with_reducible apply below_drewN | with_reducible exact Nat.le_refl _ | (simp; done) | (simp; omega) | omega | exact Nat.le_refl _))) _ L y _ rfl rfl _ (by first | (simp; done) | (simp; omega)) rfl rfl hJ1.out (by omega) ?_)
        intro g3 c3 w3 hO3 hBar3 hM3
        have hJ3 : Hid (OwnT W0.heap.size w3 (.slice (some ⟨g3, 0, none⟩) (us.length + m + 1) c3) (us ++ (bs.take (m + 1)).map (shT us.length)) ∧ Below W0.heap.size W0 w3) := Lib.hid ⟨by rw [htk2.out, hsh.out, ← List.append_assoc, hL2.out]; (first | exact hO3 | (rw [hOl] at hO3; exact hO3)), hJ2.out.trans (bar_belO hBar3 hJ1.out hsW)⟩
        clear hO3 hBar3 hM3
        (try rw [hOl])
        go_wp2_with fail
        go_roundw
        case rel => exact ⟨m + 1, by omega, by go_num, hJ3⟩
        case measure => simp [intOf]; omega
    · obtain rfl : m = bs.length := by omega
      have hLf : Hid (L = us ++ bs.map (shT us.length)) := Lib.hid (by rw [← hL2.out, List.take_length])
      go_wp2_with (at_builtin; refine op_tyh rfl (.tmp 47) (.tmp 58) _ W W0.heap.size hsW (by (repeat' (first | with_reducible exact Below.refl _ _ | with_reducible assumption | with_reducible apply Below.setCell | with_reducible apply Below.alloc | with_reducible apply Below.drew | with_reducible apply below_drewN | with_reducible exact Nat.le_refl _ | (simp; done) | (simp; omega) | omega | exact Nat.le_refl _))) _ L (fnT ((us.length : Int) - 1) (((us.length + bs.length : Nat) : Int) - 1) r) _ rfl rfl _ (by first | (simp; done) | (simp; omega)) rfl (by first | rfl | simp [tyL1, fnT]) hJ1.out (by omega) ?_)
      intro g3 c3 w3 hO3 hBar3 hM3
      have hB3 := Lib.hid (hJ2.out.trans (bar_belO hBar3 hJ1.out hsW))
      have hO3' : Hid (OwnT W0.heap.size w3 (.slice (some ⟨g3, 0, none⟩) (L.length + 1) c3) (arwL us r bs)) := Lib.hid (by unfold arwL; rw [← hLf.out]; rw [show L.length + 1 = us.length + bs.length + 1 from by omega]; (first | exact hO3 | (rw [Int.natCast_add]; exact hO3)))
      clear hO3 hBar3 hM3 x0 x1 x2 x3 x4 x5 x6 x7 x8 x9 x10 x11
      have hA3 := Lib.hid (hW0.out.below hB3.out)
      obtain ⟨x0, x1, x2, x8, x9, x10, x11⟩ := hA3.out
      have hw0 := hW0.out.1
      have x12 : w.heap.size + 1 + 1 + 1 < w3.heap.size := by omega
      go_wp2_with fail
      refine bodyPost_ret (v := .agg #[.slice (some ⟨g3, 0, none⟩) (us.length + bs.length + 1) c3]) (by simp [results, Tryd.results55, go_sem, x10, setS x9]) rfl ⟨_, rfl, ownT_le (ownT_put (by first | exact hO3'.out | (have e := hO3'.out; rw [hOl] at e; exact e)) (by omega)) (by omega), x11.setCell (by show w.heap.size ≤ w.heap.size + 1 + 1 + 1; omega) _⟩
set_option maxRecDepth 100000 in
set_option maxHeartbeats 8000000 in
theorem makeFun_bad (a1 : Option Addr) (n1 c1 : Nat) (r : Rw) (a2 : Option Addr) (n2 c2 : Nat) (us bs : List Ty) (w : World) (h1 : Hid (TyArg w a1 n1 us)) (h2 : Hid (TyArg w a2 n2 bs)) (hl : n1 ≤ 140737488351232) (hl2 : n2 ≤ 140737488351232) (hno : funOk us r bs = false) :
    Calls Tryd.prog 23 #[.agg #[.slice a1 n1 c1], .agg #[.int .i64 r.a, .int .i64 r.b, .int .i64 r.c, .int .i64 r.d, .int .i64 r.t], .agg #[.slice a2 n2 c2]] w (FunPost us r bs w) := by
  have kM := Lib.hid fun (W : World) (hb : Below w.heap.size w W) => rTyMay_any a1 n1 c1 us W (Lib.hid (h1.out.below hb)) hl
  have kN := Lib.hid fun (W : World) (hb : Below w.heap.size w W) => rTyMay_any a2 n2 c2 bs W (Lib.hid (h2.out.below hb)) hl2
  have kR := Lib.hid fun (W : World) => rRowMay_any r.a r.b r.c r.d r.t W
  have hW0 := Lib.hid (fnW_mk w r a1 n1 c1 a2 n2 c2)
  have hn1 := h1.out.1
  have hn2 := h2.out.1
  obtain ⟨q1, hq1⟩ : ∃ q, tyV us = q := ⟨_, rfl⟩
  obtain ⟨q2, hq2⟩ : ∃ q, tyV bs = q := ⟨_, rfl⟩
  obtain ⟨q3, hq3⟩ : ∃ q, mayR r.a r.b r.c r.d r.t = q := ⟨_, rfl⟩
  have hq4 : q1 = true → q2 = true → q3 = true → 256 < n1 + n2 + 1 := by
    rintro rfl rfl rfl
    unfold funOk at hno
    rw [hq1, hq2, show r.may = true from hq3] at hno
    simp at hno
    omega
  rw [hq1] at kM
  rw [hq2] at kN
  rw [hq3] at kR
  have hno := Lib.hid hno
  have hb0 : ∀ W, FnW w r a1 n1 c1 a2 n2 c2 W → Below w.heap.size w W := fun W h => h.2.2.2.2.2.2
  have hb0 := Lib.hid hb0
  clear hq1 hq2 hq3 hn1 hn2 h1 h2
  go_enter Tryd.func23, Tryd.ntmps23
  go_upto_region 1 with fail
  obtain ⟨W0, hW0e⟩ : ∃ W, ((((w.alloc (.cells #[.slice a1 n1 c1] 24)).alloc (.cells #[.int .i64 r.a, .int .i64 r.b, .int .i64 r.c, .int .i64 r.d, .int .i64 r.t] 27)).alloc (.cells #[.slice a2 n2 c2] 24)).alloc (.cells #[.slice none 0 0] 24)) = W := ⟨_, rfl⟩
  rw [hW0e] at hW0 ⊢
  clear hW0e
  obtain ⟨x0, x1, ⟨x2, x3, x4, x5, x6, x7⟩, x8, x9, x10, x11⟩ := hW0.out
  cases q1
  · go_wp2_with fail
    refine (kM.out _ (hb0.out _ hW0.out)).mono ?_
    rintro e w1 ⟨rfl, hb⟩
    have hW1 := Lib.hid (hW0.out.below hb)
    clear x0 x1 x2 x3 x4 x5 x6 x7 x8 x9 x10 x11 hb
    obtain ⟨x0, x1, ⟨x2, x3, x4, x5, x6, x7⟩, x8, x9, x10, x11⟩ := hW1.out
    go_wp2_with fail
    refine bodyPost_ret (v := .tuple #[.agg #[.slice none 0 0], .int .i64 700]) (by simp [results, Tryd.results23, go_sem, x10, setS x9]) rfl (fun_no hno.out rfl ((hb0.out _ hW1.out).setCell (by show w.heap.size ≤ w.heap.size + 1 + 1 + 1; omega) _))
  cases q3
  · go_wp2_with fail
    refine (kM.out _ (hb0.out _ hW0.out)).mono ?_
    rintro e w1 ⟨rfl, hb⟩
    have hW1 := Lib.hid (hW0.out.below hb)
    clear x0 x1 x2 x3 x4 x5 x6 x7 x8 x9 x10 x11 hb
    obtain ⟨x0, x1, ⟨x2, x3, x4, x5, x6, x7⟩, x8, x9, x10, x11⟩ := hW1.out
    go_wp2_with fail
    refine (kR.out _).mono ?_
    rintro e w2 ⟨rfl, hb⟩
    have hW2 := Lib.hid (hW1.out.below hb)
    clear x0 x1 x2 x3 x4 x5 x6 x7 x8 x9 x10 x11 hb
    obtain ⟨x0, x1, ⟨x2, x3, x4, x5, x6, x7⟩, x8, x9, x10, x11⟩ := hW2.out
    go_wp2_with fail
    refine bodyPost_ret (v := .tuple #[.agg #[.slice none 0 0], .int .i64 700]) (by simp [results, Tryd.results23, go_sem, x10, setS x9]) rfl (fun_no hno.out rfl ((hb0.out _ hW2.out).setCell (by show w.heap.size ≤ w.heap.size + 1 + 1 + 1; omega) _))
  cases q2
  · go_wp2_with fail
    refine (kM.out _ (hb0.out _ hW0.out)).mono ?_
    rintro e w1 ⟨rfl, hb⟩
    have hW1 := Lib.hid (hW0.out.below hb)
    clear x0 x1 x2 x3 x4 x5 x6 x7 x8 x9 x10 x11 hb
    obtain ⟨x0, x1, ⟨x2, x3, x4, x5, x6, x7⟩, x8, x9, x10, x11⟩ := hW1.out
    go_wp2_with fail
    refine (kR.out _).mono ?_
    rintro e w2 ⟨rfl, hb⟩
    have hW2 := Lib.hid (hW1.out.below hb)
    clear x0 x1 x2 x3 x4 x5 x6 x7 x8 x9 x10 x11 hb
    obtain ⟨x0, x1, ⟨x2, x3, x4, x5, x6, x7⟩, x8, x9, x10, x11⟩ := hW2.out
    go_wp2_with fail
    refine (kN.out _ (hb0.out _ hW2.out)).mono ?_
    rintro e w3 ⟨rfl, hb⟩
    have hW3 := Lib.hid (hW2.out.below hb)
    clear x0 x1 x2 x3 x4 x5 x6 x7 x8 x9 x10 x11 hb
    obtain ⟨x0, x1, ⟨x2, x3, x4, x5, x6, x7⟩, x8, x9, x10, x11⟩ := hW3.out
    go_wp2_with fail
    refine bodyPost_ret (v := .tuple #[.agg #[.slice none 0 0], .int .i64 700]) (by simp [results, Tryd.results23, go_sem, x10, setS x9]) rfl (fun_no hno.out rfl ((hb0.out _ hW3.out).setCell (by show w.heap.size ≤ w.heap.size + 1 + 1 + 1; omega) _))
  · have hq5 := hq4 rfl rfl rfl
    go_wp2_with fail
    refine (kM.out _ (hb0.out _ hW0.out)).mono ?_
    rintro e w1 ⟨rfl, hb⟩
    have hW1 := Lib.hid (hW0.out.below hb)
    clear x0 x1 x2 x3 x4 x5 x6 x7 x8 x9 x10 x11 hb
    obtain ⟨x0, x1, ⟨x2, x3, x4, x5, x6, x7⟩, x8, x9, x10, x11⟩ := hW1.out
    go_wp2_with fail
    refine (kR.out _).mono ?_
    rintro e w2 ⟨rfl, hb⟩
    have hW2 := Lib.hid (hW1.out.below hb)
    clear x0 x1 x2 x3 x4 x5 x6 x7 x8 x9 x10 x11 hb
    obtain ⟨x0, x1, ⟨x2, x3, x4, x5, x6, x7⟩, x8, x9, x10, x11⟩ := hW2.out
    go_wp2_with fail
    refine (kN.out _ (hb0.out _ hW2.out)).mono ?_
    rintro e w3 ⟨rfl, hb⟩
    have hW3 := Lib.hid (hW2.out.below hb)
    clear x0 x1 x2 x3 x4 x5 x6 x7 x8 x9 x10 x11 hb
    obtain ⟨x0, x1, ⟨x2, x3, x4, x5, x6, x7⟩, x8, x9, x10, x11⟩ := hW3.out
    go_wp2_with fail
    refine bodyPost_ret (v := .tuple #[.agg #[.slice none 0 0], .int .i64 700]) (by simp [results, Tryd.results23, go_sem, x10, setS x9]) rfl (fun_no hno.out rfl ((hb0.out _ hW3.out).setCell (by show w.heap.size ≤ w.heap.size + 1 + 1 + 1; omega) _))
set_option maxRecDepth 100000 in
set_option maxHeartbeats 8000000 in
theorem makeFun_good (a1 : Option Addr) (n1 c1 : Nat) (r : Rw) (a2 : Option Addr) (n2 c2 : Nat) (us bs : List Ty) (w : World) (h1 : Hid (TyArg w a1 n1 us)) (h2 : Hid (TyArg w a2 n2 bs)) (hl : n1 ≤ 140737488351232) (hl2 : n2 ≤ 140737488351232) (hok : funOk us r bs = true) :
    Calls Tryd.prog 23 #[.agg #[.slice a1 n1 c1], .agg #[.int .i64 r.a, .int .i64 r.b, .int .i64 r.c, .int .i64 r.d, .int .i64 r.t], .agg #[.slice a2 n2 c2]] w (FunPost us r bs w) := by
  have hok' : (tyV us = true ∧ tyV bs = true) ∧ mayR r.a r.b r.c r.d r.t = true ∧ us.length + bs.length + 1 ≤ 256 := by
    unfold funOk at hok
    simp only [Bool.and_eq_true, decide_eq_true_eq] at hok
    exact ⟨hok.1.1, hok.1.2, hok.2⟩
  obtain ⟨⟨q1, q2⟩, q3, q4⟩ := hok'
  have hn1 := h1.out.1
  have hn2 := h2.out.1
  have hne : us ≠ [] := by rintro rfl; simp [tyV] at q1
  have kM := Lib.hid fun (W : World) (hb : Below w.heap.size w W) => rTyMay_any a1 n1 c1 us W (Lib.hid (h1.out.below hb)) hl
  have kN := Lib.hid fun (W : World) (hb : Below w.heap.size w W) => rTyMay_any a2 n2 c2 bs W (Lib.hid (h2.out.below hb)) hl2
  have kR := Lib.hid fun (W : World) => rRowMay_any r.a r.b r.c r.d r.t W
  have kA := Lib.hid fun (W : World) (hb : Below w.heap.size w W) => arrow7_any a1 n1 c1 r a2 n2 c2 us bs W (Lib.hid (h1.out.below hb)) (Lib.hid (h2.out.below hb)) hne q1 q2
  have hW0 := Lib.hid (fnW_mk w r a1 n1 c1 a2 n2 c2)
  rw [q1] at kM
  rw [q2] at kN
  rw [q3] at kR
  have q5 : n1 + n2 + 1 ≤ 256 := by omega
  have hy := Lib.hid (fun_yes hok)
  have hb0 : ∀ W, FnW w r a1 n1 c1 a2 n2 c2 W → Below w.heap.size w W := fun W h => h.2.2.2.2.2.2
  have hb0 := Lib.hid hb0
  unfold FunPost
  unfold AkPost at kA
  rw [hy.out.1, hy.out.2]
  generalize arwL us r bs = L at kA ⊢
  clear q1 q2 q3 q4 hn1 hn2 h1 h2 hok hne hy
  go_enter Tryd.func23, Tryd.ntmps23
  go_upto_region 1 with fail
  obtain ⟨W0, hW0e⟩ : ∃ W, ((((w.alloc (.cells #[.slice a1 n1 c1] 24)).alloc (.cells #[.int .i64 r.a, .int .i64 r.b, .int .i64 r.c, .int .i64 r.d, .int .i64 r.t] 27)).alloc (.cells #[.slice a2 n2 c2] 24)).alloc (.cells #[.slice none 0 0] 24)) = W := ⟨_, rfl⟩
  rw [hW0e] at hW0 ⊢
  clear hW0e
  obtain ⟨x0, x1, ⟨x2, x3, x4, x5, x6, x7⟩, x8, x9, x10, x11⟩ := hW0.out
  go_wp2_with fail
  refine (kM.out _ (hb0.out _ hW0.out)).mono ?_
  rintro e w1 ⟨rfl, hb⟩
  have hW1 := Lib.hid (hW0.out.below hb)
  clear x0 x1 x2 x3 x4 x5 x6 x7 x8 x9 x10 x11 hb
  obtain ⟨x0, x1, ⟨x2, x3, x4, x5, x6, x7⟩, x8, x9, x10, x11⟩ := hW1.out
  go_wp2_with fail
  refine (kR.out _).mono ?_
  rintro e w2 ⟨rfl, hb⟩
  have hW2 := Lib.hid (hW1.out.below hb)
  clear x0 x1 x2 x3 x4 x5 x6 x7 x8 x9 x10 x11 hb
  obtain ⟨x0, x1, ⟨x2, x3, x4, x5, x6, x7⟩, x8, x9, x10, x11⟩ := hW2.out
  go_wp2_with fail
  refine (kN.out _ (hb0.out _ hW2.out)).mono ?_
  rintro e w3 ⟨rfl, hb⟩
  have hW3 := Lib.hid (hW2.out.below hb)
  clear x0 x1 x2 x3 x4 x5 x6 x7 x8 x9 x10 x11 hb
  obtain ⟨x0, x1, ⟨x2, x3, x4, x5, x6, x7⟩, x8, x9, x10, x11⟩ := hW3.out
  go_wp2_with fail
  refine (kA.out _ (hb0.out _ hW3.out)).mono ?_
  rintro e w4 ⟨v4, rfl, hv4, hb⟩
  have hW4 := Lib.hid (hW3.out.below hb)
  have hs4 := Lib.hid (hW3.out.1)
  clear x0 x1 x2 x3 x4 x5 x6 x7 x8 x9 x10 x11 hb
  obtain ⟨x0, x1, ⟨x2, x3, x4, x5, x6, x7⟩, x8, x9, x10, x11⟩ := hW4.out
  obtain ⟨a4, n4, c4, rfl⟩ := ownT_sl hv4
  have hv4 := Lib.hid hv4
  go_wp2_with fail
  refine bodyPost_ret (v := .tuple #[.agg #[.slice a4 n4 c4], .int .i64 0]) (by simp [results, Tryd.results23, go_sem, x10, setS x9]) rfl ⟨_, rfl, ownT_le (ownT_put hv4.out (by have := hs4.out; omega)) (by have := hs4.out; omega), x11.setCell (by show w.heap.size ≤ w.heap.size + 1 + 1 + 1; omega) _⟩
theorem makeFun_any (a1 : Option Addr) (n1 c1 : Nat) (r : Rw) (a2 : Option Addr) (n2 c2 : Nat) (us bs : List Ty) (w : World) (h1 : Hid (TyArg w a1 n1 us)) (h2 : Hid (TyArg w a2 n2 bs)) (hl : n1 ≤ 140737488351232) (hl2 : n2 ≤ 140737488351232) :
    Calls Tryd.prog 23 #[.agg #[.slice a1 n1 c1], .agg #[.int .i64 r.a, .int .i64 r.b, .int .i64 r.c, .int .i64 r.d, .int .i64 r.t], .agg #[.slice a2 n2 c2]] w (FunPost us r bs w) := by
  cases h : funOk us r bs
  · exact makeFun_bad a1 n1 c1 r a2 n2 c2 us bs w h1 h2 hl hl2 h
  · exact makeFun_good a1 n1 c1 r a2 n2 c2 us bs w h1 h2 hl hl2 h
set_option maxRecDepth 100000 in
set_option maxHeartbeats 4000000 in
theorem typeVars_any (a : Option Addr) (n c : Nat) (ts : List Ty) (w : World) (h : Hid (TyArg w a n ts)) (hl : n ≤ 140737488351232) :
    Calls Tryd.prog 21 #[.agg #[.slice a n c]] w (VarsPost ts w) := by
  have kM := Lib.hid fun (W : World) (hb : Below w.heap.size w W) => rTyMay_any a n c ts W (Lib.hid (h.out.below hb)) hl
  have hX := Lib.hid (show BoxAt (w.alloc (.cells #[.slice a n c] 24)) w.heap.size (.slice a n c) from box_lit _ _ _ _ rfl)
  unfold VarsPost
  cases htv : tyV ts
  · rw [htv] at kM
    clear htv h
    go_enter Tryd.func21, Tryd.ntmps21
    go_wp2_with fail
    refine (kM.out _ (below_alc w _)).mono ?_
    rintro e w1 ⟨rfl, hb1⟩
    have hB := Lib.hid (belT (below_alc w _) hb1)
    clear hb1
    go_wp2_with fail
    go_ret3
    exact ⟨rfl, hB.out⟩
  · have kV := Lib.hid fun (W : World) (hb : Below w.heap.size w W) => varsOf_any a n c ts W (Lib.hid (h.out.below hb)) htv
    unfold VoPost at kV
    rw [htv] at kM
    generalize tvs (treeOf ts) [] = L1 at kV ⊢
    generalize rvs (treeOf ts) [] = L2 at kV ⊢
    simp only [if_true]
    clear htv h
    go_enter Tryd.func21, Tryd.ntmps21
    go_wp2_with fail
    refine (kM.out _ (below_alc w _)).mono ?_
    rintro e w1 ⟨rfl, hb1⟩
    have hX1 := Lib.hid (hX.out.below hb1)
    have hB := Lib.hid (belT (below_alc w (.cells #[.slice a n c] 24)) hb1)
    obtain ⟨x0, x1⟩ := hX1.out
    clear hb1
    go_wp2_with fail
    clear x0 x1
    refine (kV.out _ hB.out).mono ?_
    rintro e w2 ⟨v1, v2, rfl, h1, h2, hne, hb2⟩
    have hB2 := Lib.hid (belT hB.out hb2)
    have hs := Lib.hid hB.out.size
    have h1 := Lib.hid h1; have h2 := Lib.hid h2; have hne := Lib.hid hne
    rename_i z1 z2 z3
    clear z1 z2 z3 hb2
    go_wp2_with fail
    go_ret3
    exact ⟨v1, v2, rfl, OwnI.le h1.out (by have := hs.out; omega), OwnI.le h2.out (by have := hs.out; omega), hne.out, hB2.out⟩
end Go.Proofs.YtdganhamafhfdaaDoor

/- A type written over; numbers written over. -/
namespace Go.Proofs.YtdganhamafhfdaaDoor
open Go.RowKit Go.Maps
set_option linter.unusedVariables false
set_option linter.unusedSimpArgs false

theorem spoilTy_nil (w : World) : Calls Tryd.prog 62 #[.slice none 0 0] w fun e w' => e = .returned (.tuple #[]) ∧ w = w' := by
  go_enter Tryd.func62, Tryd.ntmps62
  go_wp2_with fail
  go_loop [2] (fun i => i = .int .i64 0) (fun _ => 0)
  case atStart => rfl
  case round =>
    obtain rfl := hrel
    go_wp2_with fail
    go_end0
    exact ⟨rfl, rfl⟩
set_option maxHeartbeats 1000000 in
theorem spoilTy_sl (g cp : Nat) (l : List Ty) (w : World) (h : Hid (TySl w g 0 l)) (hg : g < w.heap.size) (hf : Hid (∀ o, w.frozen? ⟨g, o, none⟩ = false)) (hl : l.length ≤ 1099511627776) :
    Calls Tryd.prog 62 #[.slice (some ⟨g, 0, none⟩) l.length cp] w fun e w' => e = .returned (.tuple #[]) ∧ Bar (fun k => k = g) w w' := by
  go_enter Tryd.func62, Tryd.ntmps62
  go_wp2_with fail
  go_loopw [2] (fun i wr => ∃ j : Nat, j ≤ l.length ∧ i = .int .i64 j ∧ Hid (Bar (fun k => k = g) w wr ∧ (∀ o, wr.frozen? ⟨g, o, none⟩ = false) ∧ ∀ k, j ≤ k → k < l.length → wr.cell? ⟨g, k * 9 + 1, none⟩ = some (.int .i64 (l.getD k ty0).v))) (fun i _ => l.length - (intOf i).toNat)
  case atStart => exact ⟨0, by omega, rfl, Lib.hid ⟨Bar.refl _ _, hf.out, fun k _ hk => by have := (h.out k hk).2.1; simpa using this⟩⟩
  case round =>
    obtain ⟨j, hj, rfl, hI⟩ := hrel
    by_cases hlt : j < l.length
    · have hc := hI.out.2.2 j (Nat.le_refl _) hlt
      have hz : wr.frozen? ⟨g, j * 9 + 1, none⟩ = false := hI.out.2.1 _
      generalize (l.getD j ty0).v = t at hc
      have hlt' : (j : Int) < (l.length : Int) := by omega
      have hj0 : (0 : Int) ≤ (j : Int) := by omega
      have hgr : g < wr.heap.size := by have := hI.out.1.size; omega
      go_wp2_with fail
      go_roundw
      case rel =>
        refine ⟨j + 1, by omega, by go_num, Lib.hid ⟨hI.out.1.trans (Bar.set (S := fun k => k = g) _ _ rfl) fun _ _ hs => hs, fun o => by rw [World.frozen?_setCell]; exact hI.out.2.1 o, fun k hk hk2 => ?_⟩⟩
        rw [World.cell?_setCell_other _ _ _ _ (by intro e; injection e with _ e2; simp at e2; omega)]
        exact hI.out.2.2 k (by omega) hk2
      case measure => simp [intOf]; omega
    · go_wp2_with fail
      go_end0
      exact ⟨rfl, hI.out.1⟩
theorem spoilTy_any (B : Nat) (v : Value) (l : List Ty) (w : World) (h : Hid (OwnT B w v l)) (hl : l.length ≤ 1099511627776) :
    Calls Tryd.prog 62 #[v] w fun e w' => e = .returned (.tuple #[]) ∧ Bar (fun k => v.ownBlock = some k) w w' := by
  rcases h.out.cases with ⟨rfl, rfl⟩ | ⟨g, c, rfl, hB, hg, _, hs, hf⟩
  · exact (spoilTy_nil w).mono fun e w' ⟨h1, h2⟩ => ⟨h1, h2 ▸ Bar.refl _ _⟩
  · exact (spoilTy_sl g c l w (Lib.hid hs) hg (Lib.hid hf) hl).mono fun e w' ⟨h1, h2⟩ => ⟨h1, h2.os, h2.tape, h2.output, h2.size, fun k hk hn => h2.block k hk (fun e => hn (by rw [e]; rfl))⟩
set_option maxHeartbeats 1000000 in
theorem spoilType_any (B : Nat) (v : Value) (l : List Ty) (w : World) (h : Hid (OwnT B w v l)) (hl : l.length ≤ 1099511627776) :
    Calls Tryd.prog 29 #[.agg #[v]] w fun e w' => e = .returned (.tuple #[]) ∧ Bar (fun k => v.ownBlock = some k) w w' := by
  have k := Lib.hid fun (W : World) (hb : Below w.heap.size w W) => (spoilTy_any B v l W (Lib.hid (h.out.below hb)) hl).mono fun e w' hh => (show e = .returned (.tuple #[]) ∧ Bar (fun k => v.ownBlock = some k) w w' from ⟨hh.1, (Bar.of_below (S := fun k => v.ownBlock = some k) hb).trans hh.2 fun _ _ hk => hk⟩)
  obtain ⟨a, n, c, rfl⟩ := ownT_sl h.out
  go_enter Tryd.func29, Tryd.ntmps29
  go_wp2_with fail
  refine (k.out _ (by (repeat' (first | with_reducible exact Below.refl _ _ | with_reducible assumption | with_reducible apply Below.setCell | with_reducible apply Below.alloc | with_reducible apply Below.drew | with_reducible apply below_drewN | with_reducible exact Nat.le_refl _ | (simp; done) | (simp; omega) | omega | exact Nat.le_refl _)))).mono ?_
  rintro e w1 ⟨rfl, hb⟩
  have hb := Lib.hid hb
  go_wp2_with fail
  go_end0
  exact ⟨rfl, hb.out⟩
theorem spoilInts_nil (w : World) : Calls Tryd.prog 30 #[.slice none 0 0] w fun e w' => e = .returned (.tuple #[]) ∧ w = w' := by
  go_enter Tryd.func30, Tryd.ntmps30
  go_wp2_with fail
  go_loop [2] (fun i => i = .int .i64 0) (fun _ => 0)
  case atStart => rfl
  case round =>
    obtain rfl := hrel
    go_wp2_with fail
    go_end0
    exact ⟨rfl, rfl⟩
set_option maxHeartbeats 1000000 in
theorem spoilInts_sl (g cp : Nat) (l : List Int) (w : World) (h : Hid (IsSl w g 0 l)) (hg : g < w.heap.size) (hf : Hid (∀ o, w.frozen? ⟨g, o, none⟩ = false)) (hl : l.length ≤ 1099511627776) :
    Calls Tryd.prog 30 #[.slice (some ⟨g, 0, none⟩) l.length cp] w fun e w' => e = .returned (.tuple #[]) ∧ Bar (fun k => k = g) w w' := by
  go_enter Tryd.func30, Tryd.ntmps30
  go_wp2_with fail
  go_loopw [2] (fun i wr => ∃ j : Nat, j ≤ l.length ∧ i = .int .i64 j ∧ Hid (Bar (fun k => k = g) w wr ∧ (∀ o, wr.frozen? ⟨g, o, none⟩ = false) ∧ ∀ k, j ≤ k → k < l.length → wr.cell? ⟨g, k, none⟩ = some (.int .i64 (l.getD k 0)))) (fun i _ => l.length - (intOf i).toNat)
  case atStart => exact ⟨0, by omega, rfl, Lib.hid ⟨Bar.refl _ _, hf.out, fun k _ hk => by have := h.out k hk; simpa using this⟩⟩
  case round =>
    obtain ⟨j, hj, rfl, hI⟩ := hrel
    by_cases hlt : j < l.length
    · have hc := hI.out.2.2 j (Nat.le_refl _) hlt
      have hz : wr.frozen? ⟨g, j, none⟩ = false := hI.out.2.1 _
      generalize (l.getD j 0) = t at hc
      have hlt' : (j : Int) < (l.length : Int) := by omega
      have hj0 : (0 : Int) ≤ (j : Int) := by omega
      have hgr : g < wr.heap.size := by have := hI.out.1.size; omega
      go_wp2_with fail
      go_roundw
      case rel =>
        refine ⟨j + 1, by omega, by go_num, Lib.hid ⟨hI.out.1.trans (Bar.set (S := fun k => k = g) _ _ rfl) fun _ _ hs => hs, fun o => by rw [World.frozen?_setCell]; exact hI.out.2.1 o, fun k hk hk2 => ?_⟩⟩
        rw [World.cell?_setCell_other _ _ _ _ (by intro e; injection e with _ e2; omega)]
        exact hI.out.2.2 k (by omega) hk2
      case measure => simp [intOf]; omega
    · go_wp2_with fail
      go_end0
      exact ⟨rfl, hI.out.1⟩
theorem spoilInts_any (B : Nat) (v : Value) (l : List Int) (w : World) (h : Hid (OwnI B w v l)) (hl : l.length ≤ 1099511627776) :
    Calls Tryd.prog 30 #[v] w fun e w' => e = .returned (.tuple #[]) ∧ Bar (fun k => v.ownBlock = some k) w w' := by
  rcases h.out.cases with ⟨rfl, rfl⟩ | ⟨g, c, rfl, hB, hg, _, hs, hf⟩
  · exact (spoilInts_nil w).mono fun e w' ⟨h1, h2⟩ => ⟨h1, h2 ▸ Bar.refl _ _⟩
  · exact (spoilInts_sl g c l w (Lib.hid hs) hg (Lib.hid hf) hl).mono fun e w' ⟨h1, h2⟩ => ⟨h1, h2.os, h2.tape, h2.output, h2.size, fun k hk hn => h2.block k hk (fun e => hn (by rw [e]; rfl))⟩
end Go.Proofs.YtdganhamafhfdaaDoor

