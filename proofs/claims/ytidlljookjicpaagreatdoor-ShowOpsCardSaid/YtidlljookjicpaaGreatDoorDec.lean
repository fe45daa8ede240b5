/- Contract of the reference's Decimal. -/
import Derived.Test.YtidlljookjicpaaGreatDoorLxH
import Derived.Lib.ItoaNum
import Derived.Laws.AppendOwn
import Derived.Laws.AppendOwnNone
import Derived.Laws.BytesArg
import Derived.Lib.SmallJoins
/- Contract of the reference's Decimal. -/
namespace Go.Proofs.YtidlljookjicpaaGreatDoor
open Go.RowKit
set_option linter.unusedVariables false
set_option linter.unusedSimpArgs false

/-- the digits of a number; none of 0. -/
def digs (q : Nat) : List UInt8 := if q = 0 then [] else Lib.decDigits q
theorem digs_step (q : Nat) (h : 0 < q) : digs (q / 10) ++ [UInt8.ofNat (48 + q % 10)] = digs q := by
  unfold digs
  rw [if_neg (by omega : ¬ q = 0)]
  by_cases h10 : q < 10
  · rw [if_pos (by omega), Lib.decDigits, dif_pos h10, Nat.mod_eq_of_lt h10]; rfl
  · rw [if_neg (by omega)]
    conv => rhs; rw [Lib.decDigits, dif_neg h10]
theorem digs_zero : [UInt8.ofNat (48 + 0 % 10)] = Lib.decDigits 0 := by rw [Lib.decDigits, dif_pos (by omega)]
theorem decDigits_len (q : Nat) : 1 ≤ (Lib.decDigits q).length := by
  rw [Lib.decDigits]; split <;> simp
theorem digs_pos (q : Nat) (h : 0 < q) : digs q = Lib.decDigits q := by unfold digs; rw [if_neg (by omega)]

def u8v (l : List UInt8) : List Value := l.map fun b => .int .u8 (b.toNat : Int)
theorem u8v_len (l : List UInt8) : (u8v l).length = l.length * 1 := by simp [u8v]
theorem u8v_one (l : List UInt8) : ∀ u ∈ u8v l, u.oneCell' = true := by
  intro u hu; simp only [u8v, List.mem_map] at hu; obtain ⟨b, _, rfl⟩ := hu; rfl
theorem infoU8 : (Tryz.prog.info? 5).map (fun i => (i.zero, i.size, i.bytes)) = some (some (.int .u8 0), 1, 1) := by kernel_rfl
theorem u8_of (x : Int) (h0 : 0 ≤ x) (h1 : x < 256) : ((UInt8.ofNat x.toNat).toNat : Int) = x := by
  rw [UInt8.toNat_ofNat']; omega

/-- what Decimal's loop comes to: behind it 'out' is digs (the number). -/
def DecInv (N q : Nat) (l : List UInt8) : Prop := (l = [] ∧ q = N) ∨ (1 ≤ l.length ∧ digs q ++ l = Lib.decDigits N)
theorem decInv_step {N q : Nat} {l : List UInt8} (h : DecInv N q l) (hgo : 0 < q ∨ l = []) : DecInv N (q / 10) (UInt8.ofNat (48 + q % 10) :: l) := by
  refine .inr ⟨by simp, ?_⟩
  rcases h with ⟨rfl, rfl⟩ | ⟨hl, he⟩
  · by_cases hq : 0 < q
    · rw [digs_step q hq, digs_pos q hq]
    · obtain rfl : q = 0 := by omega
      exact digs_zero
  · have hq : 0 < q := by
      rcases hgo with h | h
      · exact h
      · rw [h] at hl; simp at hl
    rw [show UInt8.ofNat (48 + q % 10) :: l = [UInt8.ofNat (48 + q % 10)] ++ l from rfl, ← List.append_assoc, digs_step q hq, he]
theorem decInv_end {N : Nat} {l : List UInt8} (h : DecInv N 0 l) (hl : l ≠ []) : l = Lib.decDigits N := by
  rcases h with ⟨h, _⟩ | ⟨_, h⟩
  · exact absurd h hl
  · simpa [digs] using h

def nilOne : Value → Nat
  | .slice none _ _ => 1
  | _ => 0
/-- a slice of the call's own that holds some bytes: nil just if there are none. -/
def OwnU8 (w : World) (B : Nat) (o : Value) (l : List UInt8) : Prop :=
  (o = .slice none 0 0 ∧ l = []) ∨ (1 ≤ l.length ∧ ∃ g c, o = .slice (some ⟨g, 0, none⟩) l.length c ∧ B ≤ g ∧ g < w.heap.size ∧ ∀ j u, (u8v l)[j]? = some u → w.cell? ⟨g, j, none⟩ = some u)
theorem add_plain (g j : Nat) : (⟨g, 0, none⟩ : Addr).add j = ⟨g, j, none⟩ := by unfold Addr.add; split <;> simp_all
theorem ownU8_of {w : World} {B n : Nat} {v : Value} {l : List UInt8} (h : w.ownsRow B 5 1 v n (u8v l)) (hn : n = l.length) (h1 : 1 ≤ l.length) : OwnU8 w B v l := by
  subst hn
  rcases h.2 with ⟨_, h0⟩ | ⟨g, cap, cur, rfl, hB, hg, _⟩
  · omega
  · refine .inr ⟨h1, g, cap, rfl, hB, ?_, ?_⟩
    · rcases Nat.lt_or_ge g w.heap.size with hlt | hge
      · exact hlt
      · rw [Array.getElem?_eq_none hge] at hg; cases hg
    · intro j u hj
      have := h.cells (g := g) rfl j u hj
      rwa [add_plain] at this
theorem ownU8_some {w : World} {B : Nat} {v : Value} {l : List UInt8} (h : OwnU8 w B v l) (hl : l ≠ []) : ∃ g c, v = .slice (some ⟨g, 0, none⟩) l.length c ∧ B ≤ g ∧ g < w.heap.size ∧ ∀ j u, (u8v l)[j]? = some u → w.cell? ⟨g, j, none⟩ = some u := by
  rcases h with ⟨_, h0⟩ | ⟨_, h⟩
  · exact absurd h0 hl
  · exact h
theorem own_one (W : World) (B : Nat) (x : Int) (h : B ≤ W.heap.size) : (W.alloc (.cells #[.int .u8 x] 5)).ownsRow B 5 1 (.slice (some ⟨W.heap.size, 0, none⟩) 1 1) 1 [.int .u8 x] :=
  ⟨rfl, .inr ⟨W.heap.size, 1, #[.int .u8 x], rfl, h, heap_alloc_new W _, Nat.le_refl _, by decide, rfl, rfl⟩⟩

/-- putting a byte ahead: 'append([]byte{x}, out...)' where 'out' is the call's own. -/
theorem ahead {ops : Array Oper} {rest : List Oper} {o : Oper} {a : Act} {Q : Exit → Act → World → Prop} (hgd : o.guard = none) (s x : Operand) (W : World) (B : Nat) (hB : B ≤ W.heap.size) (b : UInt8) (xv : Int) (hxv : (b.toNat : Int) = xv) (l : List UInt8) (ov : Value)
    (ho : o.op = .call { callee := .builtin .append, args := #[s, x], argTypes := #[55, 55] })
    (hs : a.eval s = .slice (some ⟨W.heap.size, 0, none⟩) 1 1) (hx : a.eval x = ov) (hown : OwnU8 W B ov l) (hlen : l.length ≤ 100)
    (h : ∀ v' w', OwnU8 w' B v' (b :: l) → Below B W w' → nilOne v' = 0 → wpList Tryz.prog ops Q rest (a.put o.dst v') w') :
    wpList Tryz.prog ops Q (o :: rest) a (W.alloc (.cells #[.int .u8 xv] 5)) := by
  subst hxv
  obtain ⟨i0, hi, hz0, hz1, hz2⟩ := info_parts infoU8
  have ho1 := own_one W B (b.toNat : Int) hB
  have nilO : ∀ v' l', 1 ≤ List.length l' → ∀ w', OwnU8 w' B v' l' → nilOne v' = 0 := by
    intro v' l' h1 w' h2
    rcases h2 with ⟨_, h3⟩ | ⟨_, g, c, rfl, _⟩
    · rw [h3] at h1; simp at h1
    · rfl
  rcases hown with ⟨rfl, rfl⟩ | ⟨h1, g, c, rfl, hg, hgl, hc⟩
  · refine wpList_append_own_none hgd s x 55 ho B 5 i0 1 Tryz.underlying55 hi _ 1 [.int .u8 (b.toNat : Int)] hs ho1 hx ?_
    have hO : OwnU8 (W.alloc (.cells #[.int .u8 (b.toNat : Int)] 5)) B (.slice (some ⟨W.heap.size, 0, none⟩) 1 1) [b] := ownU8_of (n := 1) ho1 rfl (by simp)
    exact h _ _ hO ((Below.refl _ _).alloc hB _) rfl
  · refine wpList_append_own _ hgd s x 55 ho B 5 i0 (.int .u8 0) 1 1 Tryz.underlying55 hi hz0 hz1 hz2 rfl (by decide) _ 1 [.int .u8 (b.toNat : Int)] hs ho1 ⟨g, 0, none⟩ l.length c (u8v l) hx (u8v_len l) ?_ (u8v_one l) (by unfold maxLen; omega) (by omega) (by simp; omega) ?_
    · intro j u hj
      rw [add_plain, World.cell?_alloc_lt _ _ _ hgl]
      exact hc j u hj
    · intro v' w' hown' hgr _
      have hO : OwnU8 w' B v' (b :: l) := ownU8_of (n := 1 + l.length) hown' (by simp; omega) (by simp)
      refine h v' w' hO ?_ (nilO v' (b :: l) (by simp) w' hO)
      have hsz := hgr.size
      simp at hsz
      refine ⟨hgr.os, hgr.tape, hgr.output, by omega, fun k hk => ?_⟩
      rw [hgr.block k (by simp; omega) (by simp [Value.ownBlock]; omega)]
      exact Below.heap_alloc W _ k (by omega)

theorem decDigits_le : ∀ (k u : Nat), 1 ≤ k → u < 10 ^ k → (Lib.decDigits u).length ≤ k := by
  intro k
  induction k with
  | zero => intro u h; omega
  | succ k ih =>
    intro u _ hu
    rw [Lib.decDigits]
    by_cases h10 : u < 10
    · rw [dif_pos h10]; simp
    · rw [dif_neg h10, List.length_append]
      have hk : 1 ≤ k := by
        rcases Nat.eq_zero_or_pos k with h | h
        · subst h; simp at hu; omega
        · exact h
      have := ih (u / 10) hk (by rw [Nat.pow_succ] at hu; omega)
      simp; omega
theorem inv_len {N q : Nat} {l : List UInt8} (h : DecInv N q l) (hN : N < 10 ^ 20) : l.length ≤ 20 := by
  rcases h with ⟨rfl, _⟩ | ⟨_, h⟩
  · simp
  · have h1 := decDigits_le 20 N (by decide) hN
    rw [← h, List.length_append] at h1; omega
set_option maxRecDepth 100000 in
theorem str_of {w : World} {g c : Nat} {l : List UInt8} (hc : ∀ j u, (u8v l)[j]? = some u → w.cell? ⟨g, j, none⟩ = some u) :
    (convert 55 9 (.slice (some ⟨g, 0, none⟩) l.length c)).run Tryz.prog w = .ok (.string ⟨l.toArray⟩) w := by
  have h := run_convert_bytes_arg (P := Tryz.prog) w 55 5 Tryz.underlying55 Tryz.underlying5 g 0 l.length c (l.map fun b => (b.toNat : Int)) (by simp) (by
    intro i hi
    rw [Nat.zero_add]
    refine hc i _ ?_
    simp [u8v, List.getElem?_eq_getElem hi]) 9 Tryz.underlying9
  rw [h]
  have : strOfNums (l.map fun b => (b.toNat : Int)) = ⟨l.toArray⟩ := by
    unfold strOfNums
    congr 1
    simp [List.map_map, Function.comp_def]
  rw [this]
end Go.Proofs.YtidlljookjicpaaGreatDoor

/- The reference's Decimal, walked. -/
namespace Go.Proofs.YtidlljookjicpaaGreatDoor
open Go.RowKit
set_option linter.unusedVariables false
set_option linter.unusedSimpArgs false

theorem ret_sD {a b : ByteArray} (h : a = b) : Ending.returned (.string a) = .returned (.string b) := by rw [h]
def DecPost (n : Int) (w : World) (e : Ending) (w' : World) : Prop := e = .returned (.string ⟨(Lib.itoa n).toArray⟩) ∧ Below w.heap.size w w'

set_option maxRecDepth 100000 in
set_option maxHeartbeats 1000000 in
theorem decPos_any (N : Nat) (w : World) (hN : N ≤ 9223372036854775807) :
    Calls Tryz.prog 18 #[.int .i64 N] w (DecPost N w) := by
  have hN20 : N < 10 ^ 20 := by have : (9223372036854775807 : Nat) < 10 ^ 20 := by decide
                                omega
  have hN20' := Lib.hid hN20; clear hN20
  go_enter Tryz.func18, Tryz.ntmps18
  go_wp2_with fail
  go_loopw [3, 4] (fun sz o wr => ∃ (q : Nat) (l : List UInt8), q ≤ N ∧ sz = .int .u64 q ∧ Hid (DecInv N q l) ∧ Below w.heap.size w wr ∧ Hid (OwnU8 wr w.heap.size o l)) (fun sz o _ => (intOf sz).toNat + nilOne o)
  case atStart => exact ⟨N, [], by omega, rfl, Lib.hid (.inl ⟨rfl, rfl⟩), by (repeat' (first | with_reducible exact Below.refl _ _ | with_reducible assumption | with_reducible apply Below.setCell | with_reducible apply Below.alloc | with_reducible apply Below.drew | with_reducible apply below_drewN | with_reducible exact Nat.le_refl _ | (simp; done) | (simp; omega) | omega | exact Nat.le_refl _)), Lib.hid (.inl ⟨rfl, rfl⟩)⟩
  case round =>
    obtain ⟨q, l, hqN, rfl, hinv, hbw, hown⟩ := hrel
    have hl := inv_len hinv.out hN20'.out
    have hws := hbw.size
    by_cases hq : 0 < q
    · have hqi : (0 : Int) < (q : Int) := by omega
      have hst := Lib.hid (decInv_step hinv.out (.inl hq))
      have hb : Hid (((UInt8.ofNat (48 + q % 10)).toNat : Int) = 48 + (q : Int) % 10) := Lib.hid (by rw [UInt8.toNat_ofNat']; omega)
      go_wp2_with (at_builtin; refine ahead rfl (.tmp 25) (.tmp 26) _ w.heap.size hws (UInt8.ofNat (48 + q % 10)) _ hb.out l _ rfl rfl rfl hown.out (by omega) ?_; intro v' w1 hown1 hb1 hn1)
      have hown1' := Lib.hid hown1; clear hown1
      have hn1' := Lib.hid hn1; clear hn1
      go_wp2_with fail
      go_roundw
      case rel => exact ⟨q / 10, _, by omega, by go_num, hst, hbw.trans hb1, hown1'⟩
      case measure => simp [intOf]; rw [hn1'.out]; omega
    · obtain rfl : q = 0 := by omega
      rcases hown.out with ⟨rfl, rfl⟩ | ⟨hl1, g, c, rfl, hg, hgl, hc⟩
      · have hst := Lib.hid (decInv_step hinv.out (.inr rfl))
        have hb : Hid (((UInt8.ofNat (48 + 0 % 10)).toNat : Int) = 48) := Lib.hid rfl
        go_wp2_with (at_builtin; refine ahead rfl (.tmp 25) (.tmp 26) _ w.heap.size hws (UInt8.ofNat (48 + 0 % 10)) _ hb.out [] _ rfl rfl rfl hown.out (by simp) ?_; intro v' w1 hown1 hb1 hn1)
        have hown1' := Lib.hid hown1; clear hown1
        have hn1' := Lib.hid hn1; clear hn1
        go_wp2_with fail
        go_roundw
        case rel => exact ⟨0 / 10, _, by omega, by go_num, hst, hbw.trans hb1, hown1'⟩
        case measure => simp [intOf]; rw [hn1'.out]; simp [nilOne]
      · have hend : Hid (l = Lib.decDigits N) := Lib.hid (decInv_end hinv.out (by intro h; rw [h] at hl1; simp at hl1))
        have hcv := str_of (c := c) hc
        have hz : ((l.length : Int) == 0) = false := by rw [beq_eq_false_iff_ne]; omega
        clear hc hown
        go_wp2_with fail
        go_ret
        have hi : Lib.itoa (N : Int) = Lib.decDigits N := by unfold Lib.itoa; rw [if_neg (by omega)]; simp
        exact ⟨ret_sD (by rw [hi, ← hend.out]), hbw⟩
set_option maxRecDepth 100000 in
set_option maxHeartbeats 1000000 in
theorem decNeg_any (n : Int) (N : Nat) (w : World) (hN : N ≤ 4611686018427387904) (hn : n < 0) (hn0 : -4611686018427387904 ≤ n) (hnN : Hid (n = -(N : Int))) :
    Calls Tryz.prog 18 #[.int .i64 n] w (DecPost n w) := by
  have hN20 : N < 10 ^ 20 := by have : (4611686018427387904 : Nat) < 10 ^ 20 := by decide
                                omega
  have hN20' := Lib.hid hN20; clear hN20
  go_enter Tryz.func18, Tryz.ntmps18
  go_wp2_with fail
  go_loopw [3, 4] (fun sz o wr => ∃ (q : Nat) (l : List UInt8), q ≤ N ∧ sz = .int .u64 q ∧ Hid (DecInv N q l) ∧ Below w.heap.size w wr ∧ Hid (OwnU8 wr w.heap.size o l)) (fun sz o _ => (intOf sz).toNat + nilOne o)
  case atStart => exact ⟨N, [], by omega, (by congr 1; have := hnN.out; omega), Lib.hid (.inl ⟨rfl, rfl⟩), by (repeat' (first | with_reducible exact Below.refl _ _ | with_reducible assumption | with_reducible apply Below.setCell | with_reducible apply Below.alloc | with_reducible apply Below.drew | with_reducible apply below_drewN | with_reducible exact Nat.le_refl _ | (simp; done) | (simp; omega) | omega | exact Nat.le_refl _)), Lib.hid (.inl ⟨rfl, rfl⟩)⟩
  case round =>
    obtain ⟨q, l, hqN, rfl, hinv, hbw, hown⟩ := hrel
    have hl := inv_len hinv.out hN20'.out
    have hws := hbw.size
    by_cases hq : 0 < q
    · have hqi : (0 : Int) < (q : Int) := by omega
      have hst := Lib.hid (decInv_step hinv.out (.inl hq))
      have hb : Hid (((UInt8.ofNat (48 + q % 10)).toNat : Int) = 48 + (q : Int) % 10) := Lib.hid (by rw [UInt8.toNat_ofNat']; omega)
      go_wp2_with (at_builtin; refine ahead rfl (.tmp 25) (.tmp 26) _ w.heap.size hws (UInt8.ofNat (48 + q % 10)) _ hb.out l _ rfl rfl rfl hown.out (by omega) ?_; intro v' w1 hown1 hb1 hn1)
      have hown1' := Lib.hid hown1; clear hown1
      have hn1' := Lib.hid hn1; clear hn1
      go_wp2_with fail
      go_roundw
      case rel => exact ⟨q / 10, _, by omega, by go_num, hst, hbw.trans hb1, hown1'⟩
      case measure => simp [intOf]; rw [hn1'.out]; omega
    · obtain rfl : q = 0 := by omega
      rcases hown.out with ⟨rfl, rfl⟩ | ⟨hl1, g, c, rfl, hg, hgl, hc⟩
      · have hst := Lib.hid (decInv_step hinv.out (.inr rfl))
        have hb : Hid (((UInt8.ofNat (48 + 0 % 10)).toNat : Int) = 48) := Lib.hid rfl
        go_wp2_with (at_builtin; refine ahead rfl (.tmp 25) (.tmp 26) _ w.heap.size hws (UInt8.ofNat (48 + 0 % 10)) _ hb.out [] _ rfl rfl rfl hown.out (by simp) ?_; intro v' w1 hown1 hb1 hn1)
        have hown1' := Lib.hid hown1; clear hown1
        have hn1' := Lib.hid hn1; clear hn1
        go_wp2_with fail
        go_roundw
        case rel => exact ⟨0 / 10, _, by omega, by go_num, hst, hbw.trans hb1, hown1'⟩
        case measure => simp [intOf]; rw [hn1'.out]; simp [nilOne]
      · have hend : Hid (l = Lib.decDigits N) := Lib.hid (decInv_end hinv.out (by intro h; rw [h] at hl1; simp at hl1))
        have hown' := hown
        have hz : ((l.length : Int) == 0) = false := by rw [beq_eq_false_iff_ne]; omega
        clear hc hown
        go_wp2_with (at_builtin; refine ahead rfl (.tmp 32) (.tmp 33) _ w.heap.size hws 45 _ rfl l _ rfl rfl rfl hown'.out (by omega) ?_; intro v' w1 hown1 hb1 hn1; obtain ⟨l2, hl2⟩ : ∃ l2, (45 : UInt8) :: l = l2 := ⟨_, rfl⟩; rw [hl2] at hown1; obtain ⟨g', c', rfl, hg', hgl', hc'⟩ := ownU8_some hown1 (by rw [← hl2]; simp); have hl2' := Lib.hid hl2; have hcv := str_of (c := c') hc'; clear hl2 hc' hn1 hown1)
        go_ret
        have hi : Lib.itoa n = 45 :: Lib.decDigits N := by rw [hnN.out]; unfold Lib.itoa; rw [if_pos (by have := hnN.out; omega), Int.natAbs_neg, Int.natAbs_natCast]
        exact ⟨ret_sD (by rw [hi, ← hend.out, hl2'.out]), hbw.trans hb1⟩
theorem dec_any (n : Int) (w : World) (h0 : -4611686018427387904 ≤ n) (h1 : n ≤ 9223372036854775807) :
    Calls Tryz.prog 18 #[.int .i64 n] w (DecPost n w) := by
  by_cases hn : n < 0
  · exact decNeg_any n (-n).toNat w (by omega) hn h0 (Lib.hid (by omega))
  · obtain ⟨N, rfl⟩ := Int.eq_ofNat_of_zero_le (by omega : 0 ≤ n)
    exact decPos_any N w (by omega)
end Go.Proofs.YtidlljookjicpaaGreatDoor
