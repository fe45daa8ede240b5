/- What is printed, its parts, a tree's row: plain; what printing alone wants. -/
import Derived.Test.YthpcbgljbpmafaaGreatDoorU1
import Derived.Test.YthpcbgljbpmafaaGreatDoorU9
import Derived.Test.YthpcbgljbpmafaaGreatDoorU15
import Derived.Test.YthpcbgljbpmafaaGreatDoorU17
import Derived.Test.YthpcbgljbpmafaaGreatDoorU22
import Derived.Test.YthpcbgljbpmafaaGreatDoorU23
import Derived.Test.YthpcbgljbpmafaaGreatDoorU30
import Derived.Test.YthpcbgljbpmafaaGreatDoorU32
import Derived.Test.YthpcbgljbpmafaaGreatDoorU33
import Derived.Test.YthpcbgljbpmafaaGreatDoorU34
import Derived.Test.YthpcbgljbpmafaaGreatDoorU35
import Derived.Test.YthpcbgljbpmafaaGreatDoorChecked
import Derived.WalkKit
import Derived.ProofKit
import Derived.Below
import Derived.Lib.Hide
import Derived.IntWalk
set_option maxRecDepth 100000
set_option maxHeartbeats 8000000
namespace Go.Proofs.YthpcbgljbpmafaaGreatDoor
open Go.RowKit
set_option linter.unusedVariables false
set_option linter.unusedSimpArgs false
theorem nm_sz {x : ByteArray} (h : nmB x.data.toList = true) : x.size ≤ 1125899906842624 := by
 unfold nmB at h
 simp only [Bool.and_eq_true, decide_eq_true_eq] at h
 have := h.1.1
 show x.data.size ≤ _
 rw [← Array.length_toList]; omega
theorem e_sz {x : ByteArray} (h : x.data.toList = []) : x.size ≤ 1125899906842624 := by
 show x.data.size ≤ _
 rw [← Array.length_toList, h]; decide
theorem plain_sz {t : Nd} (hp : plainC t.k t.a t.b t.c t.n t.nm.data.toList t.x.data.toList t.y.data.toList t.z.data.toList = true) (hn : namedB t.k t.n (namesL t.k t.nm t.x t.y t.z) = true) : NdSz t := by
 obtain ⟨k, a, b, c, n, nm, x, y, z, p⟩ := t
 dsimp only at hp hn
 unfold namedB at hn
 rw [Bool.and_eq_true] at hn
 have hn := hn.2
 unfold plainC at hp
 show nm.size ≤ _ ∧ x.size ≤ _ ∧ y.size ≤ _ ∧ z.size ≤ _
 by_cases h0 : k = 0
 ·subst h0
  rw [if_pos rfl, decide_eq_true_eq] at hp
  have hn : [nm].all (fun s => nmB s.data.toList) = true := hn
  rw [List.all_cons, Bool.and_eq_true] at hn
  exact ⟨nm_sz hn.1, e_sz hp.2.2.2.1, e_sz hp.2.2.2.2.1, e_sz hp.2.2.2.2.2⟩
 rw [if_neg h0] at hp
 by_cases h1 : k = 1 ∨ k = 2
 ·rw [if_pos h1, decide_eq_true_eq] at hp
  exact ⟨e_sz hp.2.2.2.1, e_sz hp.2.2.2.2.1, e_sz hp.2.2.2.2.2.1, e_sz hp.2.2.2.2.2.2⟩
 rw [if_neg h1] at hp
 by_cases h3 : k = 3
 ·subst h3
  rw [if_pos rfl, decide_eq_true_eq] at hp
  have hn : [x].all (fun s => nmB s.data.toList) = true := hn
  rw [List.all_cons, Bool.and_eq_true] at hn
  exact ⟨e_sz hp.2.2.2.1, nm_sz hn.1, e_sz hp.2.2.2.2.1, e_sz hp.2.2.2.2.2⟩
 rw [if_neg h3] at hp
 by_cases h4 : k = 4
 ·rw [if_pos h4, decide_eq_true_eq] at hp
  exact ⟨e_sz hp.2.2.1, e_sz hp.2.2.2.1, e_sz hp.2.2.2.2.1, e_sz hp.2.2.2.2.2⟩
 rw [if_neg h4] at hp
 by_cases h5 : k = 5
 ·subst h5
  rw [if_pos rfl, decide_eq_true_eq] at hp
  have hn : [x].all (fun s => nmB s.data.toList) = true := hn
  rw [List.all_cons, Bool.and_eq_true] at hn
  exact ⟨e_sz hp.2.2.1, nm_sz hn.1, e_sz hp.2.2.2.1, e_sz hp.2.2.2.2⟩
 rw [if_neg h5] at hp
 by_cases h6 : k = 6
 ·subst h6
  rw [if_pos rfl, decide_eq_true_eq] at hp
  have hn : [x, y].all (fun s => nmB s.data.toList) = true := hn
  rw [List.all_cons, List.all_cons, Bool.and_eq_true, Bool.and_eq_true] at hn
  exact ⟨e_sz hp.2.2.1, nm_sz hn.1, nm_sz hn.2.1, e_sz hp.2.2.2⟩
 rw [if_neg h6] at hp
 by_cases h7 : k = 7
 ·rw [if_pos h7, decide_eq_true_eq] at hp
  exact ⟨e_sz hp.2.1, e_sz hp.2.2.1, e_sz hp.2.2.2.1, e_sz hp.2.2.2.2⟩
 rw [if_neg h7] at hp
 by_cases h8 : k = 8
 ·rw [if_pos h8, decide_eq_true_eq] at hp
  exact ⟨e_sz hp.2.1, e_sz hp.2.2.1, e_sz hp.2.2.2.1, e_sz hp.2.2.2.2⟩
 rw [if_neg h8] at hp
 by_cases h9 : k = 9
 ·subst h9
  rw [if_pos rfl, decide_eq_true_eq] at hp
  have hn : [nm].all (fun s => nmB s.data.toList) = true := hn
  rw [List.all_cons, Bool.and_eq_true] at hn
  exact ⟨nm_sz hn.1, e_sz hp.2.2.1, e_sz hp.2.2.2.1, e_sz hp.2.2.2.2⟩
 rw [if_neg h9, decide_eq_true_eq] at hp
 subst hp
 have hn : [nm, x, y, z].all (fun s => nmB s.data.toList) = true := hn
 simp only [List.all_cons, Bool.and_eq_true] at hn
 exact ⟨nm_sz hn.1, nm_sz hn.2.1, nm_sz hn.2.2.1, nm_sz hn.2.2.2.1⟩
theorem ok_sz {t : Nd} (h : okNd (okNm true) t = true) : NdSz t := by
 unfold okNd okNm at h
 rw [plain_c] at h
 simp only [Bool.and_eq_true, if_true] at h
 exact plain_sz h.1.1.1.1 h.2
def bare0 (t : Nd) : Nd := { t with p := 0 }
theorem sameS_of {ns ms : List Nd} (h : ns.map bare0 = ms.map bare0) : sameV ndS ns ms = true := by
 have hl : ns.length = ms.length := by have := congrArg List.length h; simpa using this
 unfold sameV allR
 rw [decide_eq_true hl, Bool.true_and, List.all_eq_true]
 intro j hj
 have hj : j < ns.length := List.mem_range.1 hj
 have e : ∀ (l : List Nd), j < l.length → (l.map bare0)[j]? = some (bare0 (l.getD j nd0)) := fun l hl => by
  rw [List.getElem?_map, List.getD_eq_getElem?_getD, List.getElem?_eq_getElem hl]; rfl
 have k := e ns hj
 rw [h, e ms (by omega)] at k
 injection k with k
 show ndE (bare0 (ns.getD j nd0)) (bare0 (ms.getD j nd0)) = true
 rw [k]; exact ndE_self _
def bareE (t u : Nd) : Bool := decide (t.k = u.k) && decide (t.a = u.a) && decide (t.b = u.b) && decide (t.c = u.c) && decide (t.n = u.n) && decide (t.nm.data.toList = u.nm.data.toList) && decide (t.x.data.toList = u.x.data.toList) && decide (t.y.data.toList = u.y.data.toList) && decide (t.z.data.toList = u.z.data.toList)
theorem bareE_inj {t u : Nd} (h : bareE t u = true) : bare0 t = bare0 u := by
 obtain ⟨k, a, b, c, n, nm, x, y, z, p⟩ := t
 obtain ⟨k', a', b', c', n', nm', x', y', z', p'⟩ := u
 unfold bareE at h
 simp only [Bool.and_eq_true, decide_eq_true_eq] at h
 obtain ⟨⟨⟨⟨⟨⟨⟨⟨rfl, rfl⟩, rfl⟩, rfl⟩, rfl⟩, h1⟩, h2⟩, h3⟩, h4⟩ := h
 obtain rfl := ba_ext h1
 obtain rfl := ba_ext h2
 obtain rfl := ba_ext h3
 obtain rfl := ba_ext h4
 rfl
def rowE : List Nd → List Nd → Bool
 | [], [] => true
 | t :: l, u :: m => bareE t u && rowE l m
 | _, _ => false
theorem rowE_map : ∀ {ns ms : List Nd}, rowE ns ms = true → ns.map bare0 = ms.map bare0
 | [], [], _ => rfl
 | [], _ :: _, h => by cases h
 | _ :: _, [], h => by cases h
 | t :: ns, u :: ms, h => by
  unfold rowE at h
  rw [Bool.and_eq_true] at h
  rw [List.map_cons, List.map_cons, bareE_inj h.1, rowE_map h.2]
theorem sameS_l {ns ms : List Nd} (h : rowE ns ms = true) : sameV ndS ns ms = true := sameS_of (rowE_map h)
theorem PT.At.k {ts : List Nd} {T : PT} {i : Nat} (h : T.At ts i) : (T.atm = true ∧ ((ts.getD i nd0).k = 0 ∨ (ts.getD i nd0).k = 1 ∨ (ts.getD i nd0).k = 2 ∨ (ts.getD i nd0).k = 10)) ∨ (T.atm = false ∧ ((ts.getD i nd0).k = 3 ∨ (ts.getD i nd0).k = 4 ∨ (ts.getD i nd0).k = 5 ∨ (ts.getD i nd0).k = 6 ∨ (ts.getD i nd0).k = 7 ∨ (ts.getD i nd0).k = 8 ∨ (ts.getD i nd0).k = 9)) := by
 cases T with
 | var nm => obtain ⟨p, h⟩ := h; rw [h]; exact .inl ⟨rfl, .inl rfl⟩
 | int n => obtain ⟨p, h⟩ := h; rw [h]; exact .inl ⟨rfl, .inr (.inl rfl)⟩
 | bol n => obtain ⟨p, h⟩ := h; rw [h]; exact .inl ⟨rfl, .inr (.inr (.inl rfl))⟩
 | fn x a => obtain ⟨j, p, _, h, _⟩ := h; rw [h]; exact .inr ⟨rfl, .inl rfl⟩
 | app a b => obtain ⟨j, k, p, _, _, h, _⟩ := h; rw [h]; exact .inr ⟨rfl, .inr (.inl rfl)⟩
 | lt x a b => obtain ⟨j, k, p, _, _, h, _⟩ := h; rw [h]; exact .inr ⟨rfl, .inr (.inr (.inl rfl))⟩
 | rc x y a b => obtain ⟨j, k, p, _, _, h, _⟩ := h; rw [h]; exact .inr ⟨rfl, .inr (.inr (.inr (.inl rfl)))⟩
 | cd a b c => obtain ⟨j, k, m, p, _, _, _, h, _⟩ := h; rw [h]; exact .inr ⟨rfl, .inr (.inr (.inr (.inr (.inl rfl))))⟩
 | pr n a b => obtain ⟨j, k, p, _, _, h, _⟩ := h; rw [h]; exact .inr ⟨rfl, .inr (.inr (.inr (.inr (.inr (.inl rfl)))))⟩
 | ac nm a => obtain ⟨j, p, _, h, _⟩ := h; rw [h]; exact .inr ⟨rfl, .inr (.inr (.inr (.inr (.inr (.inr rfl)))))⟩
 | hn nm x y z a b c => obtain ⟨j, k, m, p, _, _, _, h, _⟩ := h; rw [h]; exact .inl ⟨rfl, .inr (.inr (.inr rfl))⟩
open Go.RowKit
def sh (N : Nat) (t : Tk) : Tk := ⟨t.kind, t.text, t.num, t.at_ + N⟩
open Go.RowKit
theorem rwalk_any (N G : Nat) (ao : Option Addr) (no co cp : Nat) (os : List Or) (hA : Hid (Apart N G ao os)) (hl : no ≤ 1000000) : ∀ f, WkSpec N G ao no co cp os f := by
 intro f
 induction f with
 | zero => intro at_ bd a n c s w h; omega
 | succ f ih =>
  intro at_ bd a n c s w hf hat hsl hD hlen hW hE hnn hEa
  have hc : (s.1.getD at_ nd0).k = 0 ∨ (s.1.getD at_ nd0).k = 3 ∨ (s.1.getD at_ nd0).k = 5 ∨ (s.1.getD at_ nd0).k = 6 ∨ (s.1.getD at_ nd0).k = 9 ∨ (s.1.getD at_ nd0).k = 10 ∨ (s.1.getD at_ nd0).k = 4 ∨ (s.1.getD at_ nd0).k = 8 ∨ (s.1.getD at_ nd0).k = 7 ∨ ((s.1.getD at_ nd0).k ≠ 0 ∧ (s.1.getD at_ nd0).k ≠ 3 ∧ (s.1.getD at_ nd0).k ≠ 5 ∧ (s.1.getD at_ nd0).k ≠ 6 ∧ (s.1.getD at_ nd0).k ≠ 9 ∧ (s.1.getD at_ nd0).k ≠ 10 ∧ (s.1.getD at_ nd0).k ≠ 4 ∧ (s.1.getD at_ nd0).k ≠ 8 ∧ (s.1.getD at_ nd0).k ≠ 7) := by omega
  rcases hc with h | h | h | h | h | h | h | h | h | h
  ·exact rk_0 N G ao no co cp os hA hl f ih at_ bd a n c s w hf hat hsl hD hlen hW hE hnn hEa h
  ·exact rk_3 N G ao no co cp os hA hl f ih at_ bd a n c s w hf hat hsl hD hlen hW hE hnn hEa h
  ·exact rk_5 N G ao no co cp os hA hl f ih at_ bd a n c s w hf hat hsl hD hlen hW hE hnn hEa h
  ·exact rk_6 N G ao no co cp os hA hl f ih at_ bd a n c s w hf hat hsl hD hlen hW hE hnn hEa h
  ·exact rk_9 N G ao no co cp os hA hl f ih at_ bd a n c s w hf hat hsl hD hlen hW hE hnn hEa h
  ·exact rk_10 N G ao no co cp os hA hl f ih at_ bd a n c s w hf hat hsl hD hlen hW hE hnn hEa h
  ·exact rk_4 N G ao no co cp os hA hl f ih at_ bd a n c s w hf hat hsl hD hlen hW hE hnn hEa h
  ·exact rk_8 N G ao no co cp os hA hl f ih at_ bd a n c s w hf hat hsl hD hlen hW hE hnn hEa h
  ·exact rk_7 N G ao no co cp os hA hl f ih at_ bd a n c s w hf hat hsl hD hlen hW hE hnn hEa h
  ·exact rk_d N G ao no co cp os hA hl f ih at_ bd a n c s w hf hat hsl hD hlen hW hE hnn hEa h
open Go.RowKit
theorem u64_bd (a : Int) : 0 ≤ IntKind.u64.wrap a ∧ IntKind.u64.wrap a < 18446744073709551616 := by
 simp only [IntKind.wrap, IntKind.signed, IntKind.bits]
 have h : (0 : Int) < 2 ^ 64 := by decide
 have := Int.emod_nonneg a (b := 2 ^ 64) (by decide)
 have := Int.emod_lt_of_pos a h
 simp at *
 omega
theorem umod_int (a K : Int) (h : 0 < K) (hk : K ≤ 9223372036854775807) : ∃ m : Int, 0 ≤ m ∧ m < K ∧ wrap64 ((IntKind.u64.wrap a).tmod K) = m := by
 have hb := u64_bd a
 rw [Int.tmod_eq_emod_of_nonneg hb.1]
 have h1 := Int.emod_nonneg (IntKind.u64.wrap a) (b := K) (by omega)
 have h2 := Int.emod_lt_of_pos (IntKind.u64.wrap a) (b := K) (by omega)
 exact ⟨(IntKind.u64.wrap a) % K, h1, h2, IntWalk.wrap64_in _ (by omega)⟩
theorem i64_small (n : Nat) (h : n < 9223372036854775808) : IntKind.i64.wrap (n : Int) = (n : Int) := IntWalk.i64_in _ (by omega)
theorem and_mask (a : Int) (k : Nat) (hk : k ≤ 62) : bits .and .i64 a ((2 ^ k - 1 : Nat) : Int) = a % ((2 ^ k : Nat) : Int) := by
 have hp : 2 ^ k ≤ 2 ^ 62 := Nat.pow_le_pow_right (by omega) hk
 have hp0 : 0 < 2 ^ k := Nat.pow_pos (by omega)
 show IntKind.i64.wrap ((BitVec.ofInt 64 a &&& BitVec.ofInt 64 ((2 ^ k - 1 : Nat) : Int)).toNat : Int) = _
 have h1 : (BitVec.ofInt 64 ((2 ^ k - 1 : Nat) : Int)).toNat = 2 ^ k - 1 := by
  rw [BitVec.ofInt_natCast, BitVec.toNat_ofNat]; exact Nat.mod_eq_of_lt (by omega)
 rw [BitVec.toNat_and, h1, Nat.and_two_pow_sub_one_eq_mod, BitVec.toNat_ofInt]
 have hd : ((2 ^ k : Nat) : Int) ∣ ((2 ^ 64 : Nat) : Int) := by
  exact_mod_cast Nat.pow_dvd_pow 2 (by omega : k ≤ 64)
 have h2 : (((a % ((2 ^ 64 : Nat) : Int)).toNat % 2 ^ k : Nat) : Int) = a % ((2 ^ k : Nat) : Int) := by
  rw [Int.natCast_emod, Int.toNat_of_nonneg (Int.emod_nonneg _ (by decide)), Int.emod_emod_of_dvd _ hd]
 rw [i64_small _ (by have := Nat.mod_lt (a % ((2 ^ 64 : Nat) : Int)).toNat hp0; omega)]
 exact h2
theorem and7 (a : Int) : bits .and .i64 a 7 = a % 8 := and_mask a 3 (by omega)
theorem and63 (a : Int) : bits .and .i64 a 63 = a % 64 := and_mask a 6 (by omega)
theorem and1023 (a : Int) : bits .and .i64 a 1023 = a % 1024 := and_mask a 10 (by omega)
end Go.Proofs.YthpcbgljbpmafaaGreatDoor
