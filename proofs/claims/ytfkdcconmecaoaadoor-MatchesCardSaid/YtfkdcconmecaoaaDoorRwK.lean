/- rows.Text with any number for the tail. -/
import Derived.Test.YtfkdcconmecaoaaDoorRwG
import Derived.Test.YtfkdcconmecaoaaDoorTab
namespace Go.Proofs.YtfkdcconmecaoaaDoor
open Go.RowKit
set_option linter.unusedVariables false
set_option linter.unusedSimpArgs false

/-- a row's text with these digits for its tail. -/
def rowK (a b c d t : Int) (s : List UInt8) : ByteArray :=
  ⟨#[60]⟩ ++ ⟨(Lib.join ((opsL (cnt4 a b c d) 4).map (·.data.toList)) [44]).toArray⟩ ++ (if 0 ≤ t then ⟨#[124, 101]⟩ ++ ⟨s.toArray⟩ else ⟨#[]⟩) ++ ⟨#[62]⟩
set_option maxHeartbeats 2000000 in
set_option maxRecDepth 100000 in
theorem textk_any (a b c d t tl : Int) (w : World) (h : mayR a b c d t = true) (htl : 0 ≤ tl ∧ tl ≤ 1000000) (hT : Hid (TabW w)) :
    Calls Tryd.prog 107 #[.agg #[.int .i64 a, .int .i64 b, .int .i64 c, .int .i64 d, .int .i64 t], .int .i64 tl] w (TextPost (rowK a b c d t (Lib.itoa tl)) w) := by
  have hm := of_decide_eq_true h
  clear h
  have hTA : Hid (TabW (w.alloc (.cells #[.int .i64 a, .int .i64 b, .int .i64 c, .int .i64 d, .int .i64 t] 36))) := Lib.hid (tab_keep hT.out ((Below.refl w.heap.size _).alloc (Nat.le_refl _) _) (Nat.le_refl _))
  clear hT
  have hi0 : Hid (∀ W : World, (Instr.index 34 (.agg #[.int .i64 a, .int .i64 b, .int .i64 c, .int .i64 d]) (.int .i64 0)).run Tryd.prog W = .ok (.int .i64 a) W) := Lib.hid fun _ => by kernel_rfl
  have hi1 : Hid (∀ W : World, (Instr.index 34 (.agg #[.int .i64 a, .int .i64 b, .int .i64 c, .int .i64 d]) (.int .i64 1)).run Tryd.prog W = .ok (.int .i64 b) W) := Lib.hid fun _ => by kernel_rfl
  have hi2 : Hid (∀ W : World, (Instr.index 34 (.agg #[.int .i64 a, .int .i64 b, .int .i64 c, .int .i64 d]) (.int .i64 2)).run Tryd.prog W = .ok (.int .i64 c) W) := Lib.hid fun _ => by kernel_rfl
  have hi3 : Hid (∀ W : World, (Instr.index 34 (.agg #[.int .i64 a, .int .i64 b, .int .i64 c, .int .i64 d]) (.int .i64 3)).run Tryd.prog W = .ok (.int .i64 d) W) := Lib.hid fun _ => by kernel_rfl
  have hn32 : Hid (∀ i, cnt4 a b c d i ≤ 32) := Lib.hid fun i => by unfold cnt4; (repeat' split) <;> omega
  go_enter Tryd.func107, Tryd.ntmps107
  go_wp2_with fail
  go_loopw [5, 11] (fun o i wr => ∃ (k : Nat) (z : Int), k ≤ 4 ∧ i = .int .i64 z ∧ z = k ∧ Below (w.heap.size + 1) (w.alloc (.cells #[.int .i64 a, .int .i64 b, .int .i64 c, .int .i64 d, .int .i64 t] 36)) wr ∧ Hid (wr.ownsRow (w.heap.size + 1) 9 1 o (opsL (cnt4 a b c d) k).length (strV (opsL (cnt4 a b c d) k)))) (fun _ i _ => 4 - (intOf i).toNat)
  case atStart => exact ⟨0, 0, by omega, rfl, rfl, by (repeat' (first | with_reducible exact Below.refl _ _ | with_reducible assumption | with_reducible apply Below.setCell | with_reducible apply Below.alloc | with_reducible apply Below.drew | with_reducible apply below_drewN | with_reducible exact Nat.le_refl _ | (simp; done) | (simp; omega) | omega | exact Nat.le_refl _)), Lib.hid ⟨rfl, .inl ⟨rfl, rfl⟩⟩⟩
  case round =>
    obtain ⟨k, z, hk, rfl, hz, hbw, hown⟩ := hrel
    have hws : w.heap.size + 1 ≤ wr.heap.size := by have := hbw.size; simp at this; omega
    have hbW : Below w.heap.size w wr := (Joins.below_alloc1 w _).trans (hbw.mono (by omega))
    have hk5 : k = 0 ∨ k = 1 ∨ k = 2 ∨ k = 3 ∨ k = 4 := by omega
    rcases hk5 with rfl | rfl | rfl | rfl | rfl
    · obtain rfl : z = 0 := by omega
      clear hz
      obtain ⟨m, hm⟩ := Int.eq_ofNat_of_zero_le (by omega : 0 ≤ a)
      have hmle : m ≤ 32 := by omega
      have hnk : Hid (cnt4 a b c d 0 = m) := Lib.hid (by unfold cnt4; simp [hm])
      have hL := Lib.hid (opsL_len (cnt4 a b c d) 32 hn32.out 0)
      have hI : ∀ W : World, Calls Tryd.prog 91 #[.int .i64 0] W fun e w' => e = .returned (.string ⟨#[48]⟩) ∧ W = w' := fun W => (Tryd.strconv_Itoa_small 0 (by decide) W).mono fun e w' ⟨he, hw⟩ => ⟨by rw [he, ddi 0 (by decide)]; rfl, hw.symm⟩
      have hI' := Lib.hid hI; clear hI
      have hx0 := Lib.hid hm; clear hm
      have hix0 : ∀ W : World, (Instr.index 34 (.agg #[.int .i64 a, .int .i64 b, .int .i64 c, .int .i64 d]) (.int .i64 0)).run Tryd.prog W = .ok (.int .i64 m) W := fun W => by rw [← hx0.out]; exact hi0.out W
      go_wp2_with fail
      go_loopw [5, 16] (fun o j wr2 => ∃ jn : Nat, jn ≤ m ∧ j = .int .i64 jn ∧ Below (w.heap.size + 1) (w.alloc (.cells #[.int .i64 a, .int .i64 b, .int .i64 c, .int .i64 d, .int .i64 t] 36)) wr2 ∧ Hid (wr2.ownsRow (w.heap.size + 1) 9 1 o (opsL (cnt4 a b c d) 0 ++ List.replicate jn (opB 0)).length (strV (opsL (cnt4 a b c d) 0 ++ List.replicate jn (opB 0))))) (fun _ j _ => m - (intOf j).toNat)
      case atStart => exact ⟨0, by omega, rfl, hbw, Lib.hid (by simpa using hown.out)⟩
      case round =>
        obtain ⟨jn, hjm, rfl, hbw2, hown2⟩ := hrel
        have hws2 : w.heap.size + 1 ≤ wr.heap.size := by have := hbw2.size; simp at this; omega
        by_cases hlt : jn < m
        · have hlen : (opsL (cnt4 a b c d) 0 ++ List.replicate jn (opB 0)).length ≤ 1000 := by rw [List.length_append, List.length_replicate]; have := hL.out; omega
          have hlen' := Lib.hid hlen; clear hlen
          go_wp2_with fail
          refine (hI'.out _).mono ?_
          rintro e w' ⟨rfl, rfl⟩
          go_wp2_with (at_builtin; refine op_more rfl (.tmp 18) (.tmp 22) _ (w.heap.size + 1) hws2 _ (opsL (cnt4 a b c d) 0 ++ List.replicate jn (opB 0)) _ rfl rfl rfl hown2.out hlen'.out ?_; intro v' w1 hown1 hb1)
          have hown1' : Hid (w1.ownsRow (w.heap.size + 1) 9 1 v' (opsL (cnt4 a b c d) 0 ++ List.replicate (jn + 1) (opB 0)).length (strV (opsL (cnt4 a b c d) 0 ++ List.replicate (jn + 1) (opB 0)))) := Lib.hid (by rw [← rep_snoc]; exact hown1)
          clear hown1
          go_wp2_with fail
          go_roundw
          case rel => exact ⟨jn + 1, by omega, by go_num, hbw2.trans hb1, hown1'⟩
          case measure => simp [intOf] <;> omega
        · obtain rfl : jn = m := by omega
          go_wp2_with fail
          go_roundw
          case rel => exact ⟨0 + 1, 1, by omega, rfl, rfl, hbw2, Lib.hid (by have := hown2.out; rw [← hnk.out] at this; exact this)⟩
          case measure => simp [intOf] <;> omega
    · obtain rfl : z = 1 := by omega
      clear hz
      obtain ⟨m, hm⟩ := Int.eq_ofNat_of_zero_le (by omega : 0 ≤ b)
      have hmle : m ≤ 32 := by omega
      have hnk : Hid (cnt4 a b c d 1 = m) := Lib.hid (by unfold cnt4; simp [hm])
      have hL := Lib.hid (opsL_len (cnt4 a b c d) 32 hn32.out 1)
      have hI : ∀ W : World, Calls Tryd.prog 91 #[.int .i64 1] W fun e w' => e = .returned (.string ⟨#[49]⟩) ∧ W = w' := fun W => (Tryd.strconv_Itoa_small 1 (by decide) W).mono fun e w' ⟨he, hw⟩ => ⟨by rw [he, ddi 1 (by decide)]; rfl, hw.symm⟩
      have hI' := Lib.hid hI; clear hI
      have hx0 := Lib.hid hm; clear hm
      have hix1 : ∀ W : World, (Instr.index 34 (.agg #[.int .i64 a, .int .i64 b, .int .i64 c, .int .i64 d]) (.int .i64 1)).run Tryd.prog W = .ok (.int .i64 m) W := fun W => by rw [← hx0.out]; exact hi1.out W
      go_wp2_with fail
      go_loopw [5, 16] (fun o j wr2 => ∃ jn : Nat, jn ≤ m ∧ j = .int .i64 jn ∧ Below (w.heap.size + 1) (w.alloc (.cells #[.int .i64 a, .int .i64 b, .int .i64 c, .int .i64 d, .int .i64 t] 36)) wr2 ∧ Hid (wr2.ownsRow (w.heap.size + 1) 9 1 o (opsL (cnt4 a b c d) 1 ++ List.replicate jn (opB 1)).length (strV (opsL (cnt4 a b c d) 1 ++ List.replicate jn (opB 1))))) (fun _ j _ => m - (intOf j).toNat)
      case atStart => exact ⟨0, by omega, rfl, hbw, Lib.hid (by simpa using hown.out)⟩
      case round =>
        obtain ⟨jn, hjm, rfl, hbw2, hown2⟩ := hrel
        have hws2 : w.heap.size + 1 ≤ wr.heap.size := by have := hbw2.size; simp at this; omega
        by_cases hlt : jn < m
        · have hlen : (opsL (cnt4 a b c d) 1 ++ List.replicate jn (opB 1)).length ≤ 1000 := by rw [List.length_append, List.length_replicate]; have := hL.out; omega
          have hlen' := Lib.hid hlen; clear hlen
          go_wp2_with fail
          refine (hI'.out _).mono ?_
          rintro e w' ⟨rfl, rfl⟩
          go_wp2_with (at_builtin; refine op_more rfl (.tmp 18) (.tmp 22) _ (w.heap.size + 1) hws2 _ (opsL (cnt4 a b c d) 1 ++ List.replicate jn (opB 1)) _ rfl rfl rfl hown2.out hlen'.out ?_; intro v' w1 hown1 hb1)
          have hown1' : Hid (w1.ownsRow (w.heap.size + 1) 9 1 v' (opsL (cnt4 a b c d) 1 ++ List.replicate (jn + 1) (opB 1)).length (strV (opsL (cnt4 a b c d) 1 ++ List.replicate (jn + 1) (opB 1)))) := Lib.hid (by rw [← rep_snoc]; exact hown1)
          clear hown1
          go_wp2_with fail
          go_roundw
          case rel => exact ⟨jn + 1, by omega, by go_num, hbw2.trans hb1, hown1'⟩
          case measure => simp [intOf] <;> omega
        · obtain rfl : jn = m := by omega
          go_wp2_with fail
          go_roundw
          case rel => exact ⟨1 + 1, 2, by omega, rfl, rfl, hbw2, Lib.hid (by have := hown2.out; rw [← hnk.out] at this; exact this)⟩
          case measure => simp [intOf] <;> omega
    · obtain rfl : z = 2 := by omega
      clear hz
      obtain ⟨m, hm⟩ := Int.eq_ofNat_of_zero_le (by omega : 0 ≤ c)
      have hmle : m ≤ 32 := by omega
      have hnk : Hid (cnt4 a b c d 2 = m) := Lib.hid (by unfold cnt4; simp [hm])
      have hL := Lib.hid (opsL_len (cnt4 a b c d) 32 hn32.out 2)
      have hI : ∀ W : World, Calls Tryd.prog 91 #[.int .i64 2] W fun e w' => e = .returned (.string ⟨#[50]⟩) ∧ W = w' := fun W => (Tryd.strconv_Itoa_small 2 (by decide) W).mono fun e w' ⟨he, hw⟩ => ⟨by rw [he, ddi 2 (by decide)]; rfl, hw.symm⟩
      have hI' := Lib.hid hI; clear hI
      have hx0 := Lib.hid hm; clear hm
      have hix2 : ∀ W : World, (Instr.index 34 (.agg #[.int .i64 a, .int .i64 b, .int .i64 c, .int .i64 d]) (.int .i64 2)).run Tryd.prog W = .ok (.int .i64 m) W := fun W => by rw [← hx0.out]; exact hi2.out W
      go_wp2_with fail
      go_loopw [5, 16] (fun o j wr2 => ∃ jn : Nat, jn ≤ m ∧ j = .int .i64 jn ∧ Below (w.heap.size + 1) (w.alloc (.cells #[.int .i64 a, .int .i64 b, .int .i64 c, .int .i64 d, .int .i64 t] 36)) wr2 ∧ Hid (wr2.ownsRow (w.heap.size + 1) 9 1 o (opsL (cnt4 a b c d) 2 ++ List.replicate jn (opB 2)).length (strV (opsL (cnt4 a b c d) 2 ++ List.replicate jn (opB 2))))) (fun _ j _ => m - (intOf j).toNat)
      case atStart => exact ⟨0, by omega, rfl, hbw, Lib.hid (by simpa using hown.out)⟩
      case round =>
        obtain ⟨jn, hjm, rfl, hbw2, hown2⟩ := hrel
        have hws2 : w.heap.size + 1 ≤ wr.heap.size := by have := hbw2.size; simp at this; omega
        by_cases hlt : jn < m
        · have hlen : (opsL (cnt4 a b c d) 2 ++ List.replicate jn (opB 2)).length ≤ 1000 := by rw [List.length_append, List.length_replicate]; have := hL.out; omega
          have hlen' := Lib.hid hlen; clear hlen
          go_wp2_with fail
          refine (hI'.out _).mono ?_
          rintro e w' ⟨rfl, rfl⟩
          go_wp2_with (at_builtin; refine op_more rfl (.tmp 18) (.tmp 22) _ (w.heap.size + 1) hws2 _ (opsL (cnt4 a b c d) 2 ++ List.replicate jn (opB 2)) _ rfl rfl rfl hown2.out hlen'.out ?_; intro v' w1 hown1 hb1)
          have hown1' : Hid (w1.ownsRow (w.heap.size + 1) 9 1 v' (opsL (cnt4 a b c d) 2 ++ List.replicate (jn + 1) (opB 2)).length (strV (opsL (cnt4 a b c d) 2 ++ List.replicate (jn + 1) (opB 2)))) := Lib.hid (by rw [← rep_snoc]; exact hown1)
          clear hown1
          go_wp2_with fail
          go_roundw
          case rel => exact ⟨jn + 1, by omega, by go_num, hbw2.trans hb1, hown1'⟩
          case measure => simp [intOf] <;> omega
        · obtain rfl : jn = m := by omega
          go_wp2_with fail
          go_roundw
          case rel => exact ⟨2 + 1, 3, by omega, rfl, rfl, hbw2, Lib.hid (by have := hown2.out; rw [← hnk.out] at this; exact this)⟩
          case measure => simp [intOf] <;> omega
    · obtain rfl : z = 3 := by omega
      clear hz
      obtain ⟨m, hm⟩ := Int.eq_ofNat_of_zero_le (by omega : 0 ≤ d)
      have hmle : m ≤ 32 := by omega
      have hnk : Hid (cnt4 a b c d 3 = m) := Lib.hid (by unfold cnt4; simp [hm])
      have hL := Lib.hid (opsL_len (cnt4 a b c d) 32 hn32.out 3)
      have hI : ∀ W : World, Calls Tryd.prog 91 #[.int .i64 3] W fun e w' => e = .returned (.string ⟨#[51]⟩) ∧ W = w' := fun W => (Tryd.strconv_Itoa_small 3 (by decide) W).mono fun e w' ⟨he, hw⟩ => ⟨by rw [he, ddi 3 (by decide)]; rfl, hw.symm⟩
      have hI' := Lib.hid hI; clear hI
      have hx0 := Lib.hid hm; clear hm
      have hix3 : ∀ W : World, (Instr.index 34 (.agg #[.int .i64 a, .int .i64 b, .int .i64 c, .int .i64 d]) (.int .i64 3)).run Tryd.prog W = .ok (.int .i64 m) W := fun W => by rw [← hx0.out]; exact hi3.out W
      go_wp2_with fail
      go_loopw [5, 16] (fun o j wr2 => ∃ jn : Nat, jn ≤ m ∧ j = .int .i64 jn ∧ Below (w.heap.size + 1) (w.alloc (.cells #[.int .i64 a, .int .i64 b, .int .i64 c, .int .i64 d, .int .i64 t] 36)) wr2 ∧ Hid (wr2.ownsRow (w.heap.size + 1) 9 1 o (opsL (cnt4 a b c d) 3 ++ List.replicate jn (opB 3)).length (strV (opsL (cnt4 a b c d) 3 ++ List.replicate jn (opB 3))))) (fun _ j _ => m - (intOf j).toNat)
      case atStart => exact ⟨0, by omega, rfl, hbw, Lib.hid (by simpa using hown.out)⟩
      case round =>
        obtain ⟨jn, hjm, rfl, hbw2, hown2⟩ := hrel
        have hws2 : w.heap.size + 1 ≤ wr.heap.size := by have := hbw2.size; simp at this; omega
        by_cases hlt : jn < m
        · have hlen : (opsL (cnt4 a b c d) 3 ++ List.replicate jn (opB 3)).length ≤ 1000 := by rw [List.length_append, List.length_replicate]; have := hL.out; omega
          have hlen' := Lib.hid hlen; clear hlen
          go_wp2_with fail
          refine (hI'.out _).mono ?_
          rintro e w' ⟨rfl, rfl⟩
          go_wp2_with (at_builtin; refine op_more rfl (.tmp 18) (.tmp 22) _ (w.heap.size + 1) hws2 _ (opsL (cnt4 a b c d) 3 ++ List.replicate jn (opB 3)) _ rfl rfl rfl hown2.out hlen'.out ?_; intro v' w1 hown1 hb1)
          have hown1' : Hid (w1.ownsRow (w.heap.size + 1) 9 1 v' (opsL (cnt4 a b c d) 3 ++ List.replicate (jn + 1) (opB 3)).length (strV (opsL (cnt4 a b c d) 3 ++ List.replicate (jn + 1) (opB 3)))) := Lib.hid (by rw [← rep_snoc]; exact hown1)
          clear hown1
          go_wp2_with fail
          go_roundw
          case rel => exact ⟨jn + 1, by omega, by go_num, hbw2.trans hb1, hown1'⟩
          case measure => simp [intOf] <;> omega
        · obtain rfl : jn = m := by omega
          go_wp2_with fail
          go_roundw
          case rel => exact ⟨3 + 1, 4, by omega, rfl, rfl, hbw2, Lib.hid (by have := hown2.out; rw [← hnk.out] at this; exact this)⟩
          case measure => simp [intOf] <;> omega
    · obtain rfl : z = 4 := by omega
      clear hz
      have hlen := Lib.hid (opsL_len (cnt4 a b c d) 32 hn32.out 4)
      have hsz := Lib.hid (opsL_size (cnt4 a b c d) 4)
      have hil := itoa_len tl (by omega) (by omega)
      have hI' : Hid (∀ W : World, Below (w.heap.size + 1) (w.alloc (.cells #[.int .i64 a, .int .i64 b, .int .i64 c, .int .i64 d, .int .i64 t] 36)) W → Calls Tryd.prog 91 #[.int .i64 tl] W fun e w' => e = .returned (.string ⟨(Lib.itoa tl).toArray⟩) ∧ Below W.heap.size W w') := Lib.hid fun W hW =>
        itoa_any tl W (by omega) (by omega) (Lib.hid (tab_keep hTA.out hW (by simp)))
      obtain ⟨IT, hIT⟩ : ∃ x, Lib.itoa tl = x := ⟨_, rfl⟩
      rw [hIT] at hI' hil
      have hIT' := Lib.hid hIT
      clear hIT
      obtain ⟨xs, hxs⟩ : ∃ xs, opsL (cnt4 a b c d) 4 = xs := ⟨_, rfl⟩
      rw [hxs] at hown hlen hsz
      obtain ⟨J, hJ⟩ : ∃ J, Lib.join (xs.map (·.data.toList)) (⟨#[44]⟩ : ByteArray).data.toList = J := ⟨_, rfl⟩
      have hJl : J.length ≤ 384 := by
        rw [← hJ]
        have h1 := join_len (xs.map (·.data.toList)) (by
          intro y hy
          obtain ⟨x, hx, rfl⟩ := List.mem_map.1 hy
          have e : x.size = x.data.toList.length := by simp
          rw [← e]; exact hsz.out x hx)
        have h2 := hlen.out
        rw [List.length_map] at h1
        exact Nat.le_trans h1 (by omega)
      have hJ' := Lib.hid hJ; clear hJ
      have hxs' := Lib.hid hxs; clear hxs
      have hc0 : wr.cell? ⟨w.heap.size, 4, none⟩ = some (.int .i64 t) := by
        rw [hbw.cell (p := ⟨w.heap.size, 4, none⟩) (by show _ < _; simp)]; simp
      rcases hown.out.2 with ⟨rfl, hz0⟩ | ⟨g, cap, cur, rfl, hg, hgh, hnc, hcm, hcs, hct⟩
      · have hx0 : xs = [] := List.eq_nil_of_length_eq_zero hz0
        have hx0' := Lib.hid hx0; clear hx0 hz0 hown
        by_cases ht : 0 ≤ t
        · go_wp2_with fail
          refine (Tryd.strings_Join_none _ _ _ _).mono ?_
          rintro e w' ⟨rfl, rfl⟩
          go_wp2_with fail
          refine (hI'.out _ hbw).mono ?_
          rintro e w' ⟨rfl, hb9⟩
          go_wp2_with fail
          go_ret
          exact ⟨ret_s (by unfold rowK; rw [hxs'.out, hx0'.out, if_pos ht, hIT'.out] <;> (apply ba_ext; simp [Lib.join_nil])), belT hbW hb9⟩
        · go_wp2_with fail
          refine (Tryd.strings_Join_none _ _ _ _).mono ?_
          rintro e w' ⟨rfl, rfl⟩
          go_wp2_with fail
          go_ret
          exact ⟨ret_s (by unfold rowK; rw [hxs'.out, hx0'.out, if_neg (by omega)]; apply ba_ext; simp [Lib.join_nil]), hbW⟩
      · have hgl : g < wr.heap.size := by
          rcases Nat.lt_or_ge g wr.heap.size with hlt | hge
          · exact hlt
          · rw [Array.getElem?_eq_none hge] at hgh; cases hgh
        have hcell : Hid (∀ (j : Nat) x, xs[j]? = some x → wr.cell? ⟨g, 0 + j, none⟩ = some (.string x)) := Lib.hid (by
          intro j x hx
          have := hown.out.cells (g := g) rfl j (.string x) (by simp [strV, hx])
          rw [show (⟨g, 0, none⟩ : Addr).add j = ⟨g, 0 + j, none⟩ from by unfold Addr.add; split <;> simp_all] at this
          exact this)
        have hN : Hid (xs.length ≤ 140737488355328 ∧ xs.length ≤ cap) := Lib.hid ⟨by have := hlen.out; omega, hnc⟩
        clear hown hgh hnc hcm hcs hct
        by_cases ht : 0 ≤ t
        · go_wp2_with fail
          refine (Tryd.strings_Join g 0 cap xs _ _ hcell.out hgl hN.out.1 hN.out.2 (by rw [hJ'.out]; omega)).mono ?_
          rintro e w2 ⟨rfl, hb2⟩
          rw [hJ'.out]
          have hc2 : w2.cell? ⟨w.heap.size, 4, none⟩ = some (.int .i64 t) := by rw [hb2.cell (p := ⟨w.heap.size, 4, none⟩) (show w.heap.size < wr.heap.size by omega)]; exact hc0
          go_wp2_with fail
          refine (hI'.out _ (hbw.trans (hb2.mono (by have := hbw.size; simp at this; first | omega | done)))).mono ?_
          rintro e w' ⟨rfl, hb9⟩
          go_wp2_with fail
          go_ret
          exact ⟨ret_s (by unfold rowK; rw [hxs'.out, if_pos ht, ← hJ'.out, hIT'.out] <;> (apply ba_ext; simp)), belT (belT hbW hb2) hb9⟩
        · go_wp2_with fail
          refine (Tryd.strings_Join g 0 cap xs _ _ hcell.out hgl hN.out.1 hN.out.2 (by rw [hJ'.out]; omega)).mono ?_
          rintro e w2 ⟨rfl, hb2⟩
          rw [hJ'.out]
          have hc2 : w2.cell? ⟨w.heap.size, 4, none⟩ = some (.int .i64 t) := by rw [hb2.cell (p := ⟨w.heap.size, 4, none⟩) (show w.heap.size < wr.heap.size by omega)]; exact hc0
          go_wp2_with fail
          go_ret
          exact ⟨ret_s (by unfold rowK; rw [hxs'.out, if_neg (by omega), ← hJ'.out]; apply ba_ext; simp), belT hbW hb2⟩

end Go.Proofs.YtfkdcconmecaoaaDoor
