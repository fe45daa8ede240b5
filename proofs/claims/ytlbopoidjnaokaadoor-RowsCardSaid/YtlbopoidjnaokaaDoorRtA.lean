/- Contracts of the reference's text of a row: at, row, rowText, RowText. -/
import Derived.Test.YtlbopoidjnaokaaDoorRwH
import Derived.Test.YtlbopoidjnaokaaDoorDecB
namespace Go.Proofs.YtlbopoidjnaokaaDoor
open Go.RowKit
set_option linter.unusedVariables false
set_option linter.unusedSimpArgs false

def jnB (l : List ByteArray) : ByteArray := ⟨(Lib.join (l.map (·.data.toList)) [44]).toArray⟩
theorem jnB_nil : jnB [] = ⟨#[]⟩ := by unfold jnB; rw [List.map_nil, Lib.join_nil]
theorem jnB_one (x : ByteArray) : jnB [x] = x := by
  apply ba_ext; unfold jnB; rw [List.map_cons, List.map_nil, Lib.join_cons]; simp [Lib.joinTail]
theorem jnB_snoc {l : List ByteArray} (h : l ≠ []) (x : ByteArray) : jnB (l ++ [x]) = jnB l ++ ⟨#[44]⟩ ++ x := by
  cases l with
  | nil => exact absurd rfl h
  | cons y r =>
    apply ba_ext
    unfold jnB
    rw [List.cons_append, List.map_cons, Lib.join_cons, List.map_cons, Lib.join_cons, List.map_append]
    simp [Lib.joinTail]
theorem jnB_len (n : Nat → Nat) (hn : ∀ i, n i ≤ 32) (k j : Nat) (hk : k ≤ 4) (hj : j ≤ 32) : (jnB (opsL n k ++ List.replicate j (opB k))).size ≤ 480 := by
  have h1 : (jnB (opsL n k ++ List.replicate j (opB k))).size = (Lib.join ((opsL n k ++ List.replicate j (opB k)).map (·.data.toList)) [44]).length := rfl
  have h2 := join_len ((opsL n k ++ List.replicate j (opB k)).map (·.data.toList)) (by
    intro x hx
    obtain ⟨y, hy, rfl⟩ := List.mem_map.1 hx
    rcases List.mem_append.1 hy with h | h
    · have := opsL_size n k y h; rw [← this]; simp
    · rw [List.eq_of_mem_replicate h]; rfl)
  have h3 := opsL_len n 32 hn k
  rw [h1]
  rw [List.length_map, List.length_append, List.length_replicate] at h2
  omega
theorem jnB_pos {l : List ByteArray} (h : l ≠ []) (hs : ∀ x ∈ l, x.size = 2) : (jnB l).toList.isEmpty = false ∧ ((jnB l).toList == []) = false := by
  cases l with
  | nil => exact absurd rfl h
  | cons y r =>
    have hy := hs y (List.mem_cons_self ..)
    have : ∃ c t, (jnB (y :: r)).toList = c :: t := by
      rw [Lib.toList_data]
      unfold jnB
      rw [List.map_cons, Lib.join_cons]
      cases hd : y.data.toList with
      | nil =>
        have hlen : y.data.toList.length = 2 := by rw [← hy]; simp
        rw [hd] at hlen; simp at hlen
      | cons c t => exact ⟨c, _, rfl⟩
    obtain ⟨c, t, e⟩ := this
    rw [e]; exact ⟨rfl, rfl⟩
theorem opsAll (n : Nat → Nat) (k j : Nat) : ∀ x ∈ opsL n k ++ List.replicate j (opB k), x.size = 2 := by
  intro x hx
  rcases List.mem_append.1 hx with h | h
  · exact opsL_size n k x h
  · rw [List.eq_of_mem_replicate h]; rfl
theorem cnt_le {a b c d t : Int} (h : mayR a b c d t = true) (i : Nat) : cnt4 a b c d i ≤ 32 := by
  have := of_decide_eq_true h
  unfold cnt4; (repeat' split) <;> omega
theorem digit_any (k : Nat) (hk : k < 10) (W : World) : Calls Tryd.prog 22 #[.int .i64 (k : Int)] W fun e w' => e = .returned (.string ⟨#[UInt8.ofNat (48 + k)]⟩) ∧ Below W.heap.size W w' :=
  (dec_any (k : Int) W (by omega) (by omega)).mono fun e w' h => by
    unfold DecPost at h
    rw [show Lib.itoa (k : Int) = [UInt8.ofNat (48 + k)] from by unfold Lib.itoa; rw [if_neg (by omega)]; exact ddi k hk] at h
    exact h
theorem infoZ : (Tryd.prog.info? 3).map (fun i => (i.zero, i.size, i.bytes)) = some (some (.int .i64 0), 1, 8) := by kernel_rfl

set_option maxHeartbeats 1000000 in
theorem at_nil (v : Int) (w : World) :
    Calls Tryd.prog 42 #[.slice none 0 0, .int .i64 v] w fun e w' => (∃ g c, e = .returned (.tuple #[.slice (some ⟨g, 0, none⟩) 1 c, .int .i64 0])) ∧ Below w.heap.size w w' := by
  obtain ⟨i0, hi, hz0, hz1, hz2⟩ := info_parts infoZ
  have hown0 : (w.alloc (.cells #[.int .i64 v] 3)).ownsRow w.heap.size 3 1 (.slice none 0 0) 0 [] := ⟨rfl, .inl ⟨rfl, rfl⟩⟩
  have hown0' := Lib.hid hown0; clear hown0
  have hnews : Hid (∀ j u, [Value.int .i64 v][j]? = some u → (w.alloc (.cells #[.int .i64 v] 3)).cell? ((⟨w.heap.size, 0, none⟩ : Addr).add j) = some u) := Lib.hid (by
    intro j u hj
    match j, hj with
    | 0, hj => simp at hj; subst hj; show (w.alloc _).cell? ⟨w.heap.size, 0, none⟩ = _; simp
    | j + 1, hj => simp at hj)
  go_enter Tryd.func42, Tryd.ntmps42
  go_wp2_with fail
  go_loop [6] (fun i => i = .int .i64 0) (fun _ => 0)
  case atStart => rfl
  case round =>
    obtain rfl := hrel
    go_wp2_with (at_builtin; refine wpList_append_own (w := w.alloc (.cells #[.int .i64 v] 3)) rfl (.tmp 21) (.tmp 23) 50 rfl w.heap.size 3 i0 (.int .i64 0) 1 8 Tryd.underlying50 hi hz0 hz1 hz2 rfl (by decide) (.slice none 0 0) 0 [] rfl hown0'.out ⟨w.heap.size, 0, none⟩ 1 1 [.int .i64 v] rfl rfl hnews.out (by intro u hu; simp at hu; subst hu; rfl) (by unfold maxLen; omega) (by omega) (by simp) ?_)
    intro v' w1 hown1 hgr _
    have hbel : Below w.heap.size w w1 := ((Below.refl _ _).alloc (Nat.le_refl _) _).grown hgr (by simp) (by intro k hk; simp [Value.ownBlock] at hk)
    obtain ⟨g, cap, rfl⟩ : ∃ g cap, v' = .slice (some ⟨g, 0, none⟩) 1 cap := by
      rcases hown1.2 with ⟨_, h0⟩ | ⟨g, cap, cur, h1, _⟩
      · simp at h0
      · exact ⟨g, cap, h1⟩
    clear hown1 hgr
    go_wp2_with fail
    go_ret2
    exact ⟨⟨_, _, rfl⟩, hbel⟩
set_option maxHeartbeats 1000000 in
theorem nrow_any (g : Nat) (v : Int) (w : World) (hg : g < w.heap.size) (hc : w.cell? ⟨g, 1, none⟩ = some (.slice none 0 0)) (hf : w.frozen? ⟨g, 1, none⟩ = false) :
    Calls Tryd.prog 35 #[.pointer (some ⟨g, 0, none⟩), .int .i64 v] w fun e w' => e = .returned (.int .i64 0) ∧ Below g w w' := by
  go_enter Tryd.func35, Tryd.ntmps35
  go_wp2_with fail
  refine (at_nil _ _).mono ?_
  rintro e w1 ⟨⟨xg, xc, rfl⟩, hb1⟩
  have hc1 : w1.cell? ⟨g, 1, none⟩ = some (.slice none 0 0) := carry hb1 hg hc
  have hf1 : w1.frozen? ⟨g, 1, none⟩ = false := by rw [hb1.frozen (p := ⟨g, 1, none⟩) hg]; exact hf
  have hbg : Below g w w1 := hb1.mono (by omega)
  clear hb1
  go_wp2_with fail
  go_ret
  exact ⟨rfl, hbg.setCell (Nat.le_refl _) _⟩

set_option maxRecDepth 100000 in
set_option maxHeartbeats 4000000 in
theorem nrowText_any (g : Nat) (a b c d t : Int) (w : World) (hm : mayR a b c d t = true) (hg : g < w.heap.size) (hc : w.cell? ⟨g, 1, none⟩ = some (.slice none 0 0)) (hf : w.frozen? ⟨g, 1, none⟩ = false) :
    Calls Tryd.prog 27 #[.pointer (some ⟨g, 0, none⟩), .agg #[.int .i64 a, .int .i64 b, .int .i64 c, .int .i64 d, .int .i64 t]] w fun e w' => e = .returned (.string (rowB a b c d t)) ∧ Below g w w' := by
  have hcl := Lib.hid (cnt_le hm)
  have hmm := of_decide_eq_true hm
  obtain ⟨W1, hW1⟩ : ∃ W, w.alloc (.cells #[.int .i64 a, .int .i64 b, .int .i64 c, .int .i64 d, .int .i64 t] 24) = W := ⟨_, rfl⟩
  have hrow : Hid (∀ k : Nat, k < 4 → W1.cell? ⟨w.heap.size, k, none⟩ = some (.int .i64 (cnt4 a b c d k : Int))) := Lib.hid (by
    intro k hk
    rw [← hW1]
    have hk4 : k = 0 ∨ k = 1 ∨ k = 2 ∨ k = 3 := by omega
    rcases hk4 with rfl | rfl | rfl | rfl
    · rw [show ((cnt4 a b c d 0 : Nat) : Int) = a by unfold cnt4; simp; omega]; simp
    · rw [show ((cnt4 a b c d 1 : Nat) : Int) = b by unfold cnt4; simp; omega]; simp
    · rw [show ((cnt4 a b c d 2 : Nat) : Int) = c by unfold cnt4; simp; omega]; simp
    · rw [show ((cnt4 a b c d 3 : Nat) : Int) = d by unfold cnt4; simp; omega]; simp)
  have hrt : Hid (W1.cell? ⟨w.heap.size, 4, none⟩ = some (.int .i64 t)) := Lib.hid (by rw [← hW1]; simp)
  have hW1b : Hid (Below w.heap.size w W1) := Lib.hid (by rw [← hW1]; (repeat' (first | with_reducible exact Below.refl _ _ | with_reducible assumption | with_reducible apply Below.setCell | with_reducible apply Below.alloc | with_reducible apply Below.drew | with_reducible apply below_drewN | with_reducible exact Nat.le_refl _ | (simp; done) | (simp; omega) | omega | exact Nat.le_refl _)))
  have hW1s : w.heap.size < W1.heap.size := by rw [← hW1]; simp
  have hc' := Lib.hid (carry hW1b.out hg hc)
  have hf' : Hid (W1.frozen? ⟨g, 1, none⟩ = false) := Lib.hid (by rw [hW1b.out.frozen (p := ⟨g, 1, none⟩) hg]; exact hf)
  have ht0 : -1 ≤ t := by omega
  have hrB : Hid (rowB a b c d t = ⟨#[60]⟩ ++ jnB (opsL (cnt4 a b c d) 4) ++ (if 0 ≤ t then ⟨#[124, 101, 48]⟩ else ⟨#[]⟩) ++ ⟨#[62]⟩) := Lib.hid rfl
  generalize rowB a b c d t = RB at hrB
  clear hm hmm hc hf
  go_enter Tryd.func27, Tryd.ntmps27
  go_wp2_with fail
  (try rw [hW1])
  clear hW1
  generalize cnt4 a b c d = n at hcl hrow hrB
  go_loopw [5, 6] (fun s i wr => ∃ k : Nat, k ≤ 4 ∧ i = .int .i64 k ∧ s = .string (jnB (opsL n k)) ∧ Below W1.heap.size W1 wr) (fun _ i _ => 4 - (intOf i).toNat)
  case atStart => exact ⟨0, by omega, rfl, by rw [show opsL n 0 = [] from rfl, jnB_nil], Below.refl _ _⟩
  case round =>
    obtain ⟨k, hk, rfl, rfl, hbw⟩ := hrel
    have hws := hbw.size
    by_cases hk4 : k < 4
    · have hcell := Lib.hid (hrow.out k hk4)
      have hnk := hcl.out k
      have hjl := Lib.hid fun (j : Nat) (hj : j ≤ 32) => jnB_len n hcl.out k j hk hj
      have hD := Lib.hid fun (W : World) => digit_any k (by omega) W
      have hop : Hid (∀ x : ByteArray, x ++ ⟨#[111]⟩ ++ ⟨#[UInt8.ofNat (48 + k)]⟩ = x ++ opB k) := Lib.hid fun x => by apply ba_ext; simp [opB]
      have hnx : Hid (opsL n (k + 1) = opsL n k ++ List.replicate (n k) (opB k)) := Lib.hid rfl
      have hsn : Hid (∀ j, opsL n k ++ List.replicate (j + 1) (opB k) = (opsL n k ++ List.replicate j (opB k)) ++ [opB k]) := Lib.hid fun j => (rep_snoc _ _ _).symm
      have hall := Lib.hid (opsAll n k)
      have hjz : Hid (opsL n k = opsL n k ++ List.replicate 0 (opB k)) := Lib.hid (by simp)
      obtain ⟨m, hm⟩ : ∃ m, n k = m := ⟨_, rfl⟩
      rw [hm] at hcell hnk hnx
      obtain ⟨dg, hdg⟩ : ∃ x, (⟨#[UInt8.ofNat (48 + k)]⟩ : ByteArray) = x := ⟨_, rfl⟩
      have hds : dg.size = 1 := by rw [← hdg]; rfl
      rw [hdg] at hD hop
      have hkk : (k : Int) < 4 := by omega
      have hk0 : (0 : Int) ≤ (k : Int) := by omega
      clear hm hdg
      go_wp2_with fail
      go_loopw [5, 7] (fun s j wr2 => ∃ jn : Nat, jn ≤ m ∧ j = .int .i64 jn ∧ s = .string (jnB (opsL n k ++ List.replicate jn (opB k))) ∧ Below W1.heap.size W1 wr2) (fun _ j _ => m - (intOf j).toNat)
      case atStart => exact ⟨0, by omega, rfl, by rw [← hjz.out], hbw⟩
      case round =>
        obtain ⟨jn, hjm, rfl, rfl, hb2⟩ := hrel
        have hcc := carry hb2 hW1s hcell.out
        by_cases hlt : jn < m
        · have hsz := hjl.out jn (by omega)
          have hal := hall.out jn
          have hs1 := hsn.out jn
          generalize opsL n k ++ List.replicate jn (opB k) = L at hsz hal hs1 ⊢
          have hs1' := Lib.hid hs1
          by_cases hLn : L = []
          · subst hLn
            rw [jnB_nil]
            have t1 : ((⟨#[]⟩ : ByteArray).toList == []) = true := by rw [Lib.toList_data]; rfl
            have t2 : (⟨#[]⟩ : ByteArray).toList.isEmpty = true := by rw [Lib.toList_data]; rfl
            clear hs1 hsz hal
            go_wp2_with fail
            refine (hD.out _).mono ?_
            rintro e w9 ⟨rfl, hb9⟩
            have hb3 : Below W1.heap.size W1 w9 := hb2.trans (hb9.mono hb2.size)
            clear hb9
            go_wp2_with fail
            go_roundw
            case rel => exact ⟨jn + 1, by omega, by go_num, by rw [hs1'.out, List.nil_append, jnB_one]; exact congrArg Value.string ((hop.out ⟨#[]⟩).trans (by apply ba_ext; simp)), hb3⟩
            case measure => simp [intOf]; omega
          · obtain ⟨t1, t2⟩ := jnB_pos hLn hal
            have hsn2 := jnB_snoc hLn (opB k)
            rw [← hs1'.out] at hsn2
            have hsn' := Lib.hid hsn2
            generalize jnB L = x at t1 t2 hsz hsn' ⊢
            clear hs1 hal hsn2
            go_wp2_with fail
            refine (hD.out _).mono ?_
            rintro e w9 ⟨rfl, hb9⟩
            have hb3 : Below W1.heap.size W1 w9 := hb2.trans (hb9.mono hb2.size)
            clear hb9
            go_wp2_with fail
            go_roundw
            case rel => exact ⟨jn + 1, by omega, by go_num, by rw [hsn'.out]; congr 1; exact hop.out _, hb3⟩
            case measure => simp [intOf]; omega
        · obtain rfl : jn = m := by omega
          rw [← hnx.out]
          go_wp2_with fail
          go_roundw
          case rel => exact ⟨k + 1, by omega, by go_num, rfl, hb2⟩
          case measure => simp [intOf]; omega
    · obtain rfl : k = 4 := by omega
      have hsz := jnB_len n hcl.out 4 0 (by omega) (by omega)
      rw [show opsL n 4 ++ List.replicate 0 (opB 4) = opsL n 4 from by simp] at hsz
      generalize jnB (opsL n 4) = x at hsz hrB ⊢
      have htc := carry hbw hW1s hrt.out
      have hcr := carry hbw (show g < W1.heap.size by omega) hc'.out
      have hfr : wr.frozen? ⟨g, 1, none⟩ = false := by rw [hbw.frozen (p := ⟨g, 1, none⟩) (show g < W1.heap.size by omega)]; exact hf'.out
      have hbg : Hid (Below g w wr) := Lib.hid ((hW1b.out.trans (hbw.mono (by omega))).mono (by omega))
      have hgr : g < wr.heap.size := by omega
      have hd0 := Lib.hid fun (W : World) => digit_any 0 (by omega) W
      by_cases ht : 0 ≤ t
      · have hRB : Hid (RB = ⟨#[60]⟩ ++ (x ++ ⟨#[124, 101]⟩ ++ ⟨#[UInt8.ofNat (48 + 0)]⟩) ++ ⟨#[62]⟩) := Lib.hid (by rw [hrB.out, if_pos ht]; apply ba_ext; simp)
        clear hrB
        obtain ⟨dg, hdg⟩ : ∃ x, (⟨#[UInt8.ofNat (48 + 0)]⟩ : ByteArray) = x := ⟨_, rfl⟩
        have hds : dg.size = 1 := by rw [← hdg]; rfl
        rw [hdg] at hd0 hRB
        clear hdg
        go_wp2_with fail
        refine (nrow_any g _ _ hgr hcr hfr).mono ?_
        rintro e w8 ⟨rfl, hb8⟩
        have hs8 := hb8.size
        have hbg8 := Lib.hid (hbg.out.trans (hb8.mono (Nat.le_refl _)))
        clear hb8
        go_wp2_with fail
        refine (hd0.out _).mono ?_
        rintro e w9 ⟨rfl, hb9⟩
        have hbg9 := Lib.hid (hbg8.out.trans (hb9.mono (by omega)))
        clear hb9
        go_wp2_with fail
        go_ret
        exact ⟨ret_s (by rw [hRB.out]), hbg9.out⟩
      · have hRB : Hid (RB = ⟨#[60]⟩ ++ x ++ ⟨#[62]⟩) := Lib.hid (by rw [hrB.out, if_neg ht]; apply ba_ext; simp)
        clear hrB
        go_wp2_with fail
        go_ret
        exact ⟨ret_s (by rw [hRB.out]), hbg.out⟩
set_option maxHeartbeats 1000000 in
theorem rRowText_any (a b c d t : Int) (w : World) :
    Calls Tryd.prog 12 #[.agg #[.int .i64 a, .int .i64 b, .int .i64 c, .int .i64 d, .int .i64 t]] w fun e w' => e = .returned (.tuple #[.string (rtV a b c d t), .int .i64 (rtE a b c d t)]) ∧ Below w.heap.size w w' := by
  cases hA : mayR a b c d t
  · have h1 := Lib.hid (show rtV a b c d t = ⟨#[]⟩ from by unfold rtV; rw [hA]; rfl)
    have h2 := Lib.hid (show rtE a b c d t = 800 from by unfold rtE; rw [hA]; rfl)
    have hA' := Lib.hid hA; clear hA
    rw [h1.out, h2.out]
    go_enter Tryd.func12, Tryd.ntmps12
    go_wp2_with fail
    refine (rRowMay_any _ _ _ _ _ _).mono ?_
    rintro e w1 ⟨rfl, hb1⟩
    rw [hA'.out]
    go_wp2_with fail
    go_ret2
    exact ⟨rfl, belT (by (repeat' (first | with_reducible exact Below.refl _ _ | with_reducible assumption | with_reducible apply Below.setCell | with_reducible apply Below.alloc | with_reducible apply Below.drew | with_reducible apply below_drewN | with_reducible exact Nat.le_refl _ | (simp; done) | (simp; omega) | omega | exact Nat.le_refl _))) hb1⟩
  · have h1 := Lib.hid (show rtV a b c d t = rowB a b c d t from by unfold rtV; rw [hA]; rfl)
    have h2 := Lib.hid (show rtE a b c d t = 0 from by unfold rtE; rw [hA]; rfl)
    have hA' := Lib.hid hA; clear hA
    rw [h1.out, h2.out]
    have hnt := Lib.hid fun (g : Nat) (W : World) => nrowText_any g a b c d t W hA'.out
    generalize rowB a b c d t = RB at hnt
    go_enter Tryd.func12, Tryd.ntmps12
    go_wp2_with fail
    refine (rRowMay_any _ _ _ _ _ _).mono ?_
    rintro e w1 ⟨rfl, hb1⟩
    rw [hA'.out]
    have hB1 : Hid (Below w.heap.size w w1) := Lib.hid (belT (by (repeat' (first | with_reducible exact Below.refl _ _ | with_reducible assumption | with_reducible apply Below.setCell | with_reducible apply Below.alloc | with_reducible apply Below.drew | with_reducible apply below_drewN | with_reducible exact Nat.le_refl _ | (simp; done) | (simp; omega) | omega | exact Nat.le_refl _))) hb1)
    have hz1 : w.heap.size < w1.heap.size := by have := hb1.size; simp at this; omega
    have g0 : w1.cell? ⟨w.heap.size, 0, none⟩ = some (.int .i64 a) := carry hb1 (by simp) (by simp)
    have g1 : w1.cell? ⟨w.heap.size, 1, none⟩ = some (.int .i64 b) := carry hb1 (by simp) (by simp)
    have g2 : w1.cell? ⟨w.heap.size, 2, none⟩ = some (.int .i64 c) := carry hb1 (by simp) (by simp)
    have g3 : w1.cell? ⟨w.heap.size, 3, none⟩ = some (.int .i64 d) := carry hb1 (by simp) (by simp)
    have g4 : w1.cell? ⟨w.heap.size, 4, none⟩ = some (.int .i64 t) := carry hb1 (by simp) (by simp)
    clear hb1
    go_wp2_with fail
    refine (hnt.out w1.heap.size _ (by simp) (by simp) (by simp [go_sem])).mono ?_
    rintro e w2 ⟨rfl, hb2⟩
    have hB2 : Below w.heap.size w w2 := (Below.alloc hB1.out hB1.out.size _).trans (hb2.mono hB1.out.size)
    go_wp2_with fail
    go_ret2
    exact ⟨rfl, hB2⟩
end Go.Proofs.YtlbopoidjnaokaaDoor
