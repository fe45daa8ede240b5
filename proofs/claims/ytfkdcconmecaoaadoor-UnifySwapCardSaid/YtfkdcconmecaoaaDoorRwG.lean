/- Contract of row.Unify. -/
import Derived.Test.YtfkdcconmecaoaaDoorRwD
import Derived.Test.YtfkdcconmecaoaaDoorShelf
import Derived.Laws.AppendOwn
import Derived.Lib.SmallJoins
import Derived.Test.YtfkdcconmecaoaaDoorDec
import Derived.Lib.LaidTab
/- Contract of row.Unify. -/
/- Contract of row.Unify. -/
namespace Go.Proofs.YtfkdcconmecaoaaDoor
open Go.RowKit
set_option linter.unusedVariables false
set_option linter.unusedSimpArgs false

def ruOk (a b c d t a' b' c' d' t' fresh : Int) : Bool := mayR a b c d t && mayR a' b' c' d' t' && decide (0 ≤ fresh ∧ fresh < 4096 ∧ t < fresh ∧ t' < fresh)
def uniG (a b c d t a' b' c' d' t' fresh : Int) : Option (List Bd) := uniT (mxz (a - a')) (mxz (b - b')) (mxz (c - c')) (mxz (d - d')) (mxz (a' - a)) (mxz (b' - b)) (mxz (c' - c)) (mxz (d' - d)) t t' fresh
def ruL (a b c d t a' b' c' d' t' fresh : Int) : List Bd := if ruOk a b c d t a' b' c' d' t' fresh then (uniG a b c d t a' b' c' d' t' fresh).getD [] else []
def ruE (a b c d t a' b' c' d' t' fresh : Int) : Int := if ruOk a b c d t a' b' c' d' t' fresh then (if (uniG a b c d t a' b' c' d' t' fresh).isSome then 0 else 801) else 800
/-- a slice of row binds in new memory, and an error. -/
def RuPost (l : List Bd) (er : Int) (w : World) (e : Ending) (w' : World) : Prop := ∃ v, e = .returned (.tuple #[v, .int .i64 er]) ∧ BdsIs w.heap.size w' v l ∧ Below w.heap.size w w'
theorem ru_no {a b c d t a' b' c' d' t' fresh : Int} (h : ruOk a b c d t a' b' c' d' t' fresh = false) : ruL a b c d t a' b' c' d' t' fresh = [] ∧ ruE a b c d t a' b' c' d' t' fresh = 800 := by
  unfold ruL ruE; rw [h]; exact ⟨rfl, rfl⟩
theorem ru_yes {a b c d t a' b' c' d' t' fresh : Int} (h : ruOk a b c d t a' b' c' d' t' fresh = true) : ruL a b c d t a' b' c' d' t' fresh = (uniG a b c d t a' b' c' d' t' fresh).getD [] ∧ ruE a b c d t a' b' c' d' t' fresh = (if (uniG a b c d t a' b' c' d' t' fresh).isSome then 0 else 801) := by
  unfold ruL ruE; rw [h]; exact ⟨rfl, rfl⟩
theorem ruPost_nil {er : Int} {w W : World} {l : List Bd} (hl : l = []) (hb : Below w.heap.size w W) {er' : Int} (he : er' = er) : RuPost l er w (.returned (.tuple #[.slice none 0 0, .int .i64 er'])) W := by
  subst hl; subst he; exact ⟨_, rfl, .inl ⟨rfl, rfl⟩, hb⟩
theorem bdsIs_le {B B' : Nat} {w : World} {v : Value} {l : List Bd} (h : BdsIs B w v l) (hb : B' ≤ B) : BdsIs B' w v l := by
  rcases h with h | ⟨g, h1, h2, h3, h4⟩
  · exact .inl h
  · exact .inr ⟨g, by omega, h2, h3, h4⟩
theorem tuple_v {v : Value} {k : IntKind} {a b : Int} (h : a = b) : Ending.returned (.tuple #[v, .int k a]) = .returned (.tuple #[v, .int k b]) := by rw [h]

end Go.Proofs.YtfkdcconmecaoaaDoor

/- Contracts of rows.Text, row.Text. -/
namespace Go.Proofs.YtfkdcconmecaoaaDoor
open Go.RowKit
set_option linter.unusedVariables false
set_option linter.unusedSimpArgs false

/-- an operation's text. -/
def opB (i : Nat) : ByteArray := ⟨#[111, UInt8.ofNat (48 + i)]⟩
/-- the operations of a row whose first k counts are all there, and j of the next one. -/
def opsL (n : Nat → Nat) : Nat → List ByteArray
  | 0 => []
  | k + 1 => opsL n k ++ List.replicate (n k) (opB k)
def cnt4 (a b c d : Int) (i : Nat) : Nat := (if i = 0 then a else if i = 1 then b else if i = 2 then c else d).toNat
def rowB (a b c d t : Int) : ByteArray :=
  ⟨#[60]⟩ ++ ⟨(Lib.join ((opsL (cnt4 a b c d) 4).map (·.data.toList)) [44]).toArray⟩ ++ (if 0 ≤ t then ⟨#[124, 101, 48]⟩ else ⟨#[]⟩) ++ ⟨#[62]⟩
theorem opsL_len (n : Nat → Nat) (M : Nat) (h : ∀ i, n i ≤ M) : ∀ k, (opsL n k).length ≤ k * M := by
  intro k
  induction k with
  | zero => simp [opsL]
  | succ k ih => unfold opsL; rw [List.length_append, List.length_replicate, Nat.add_mul]; have := h k; omega
theorem opsL_size (n : Nat → Nat) : ∀ k, ∀ x ∈ opsL n k, x.size = 2 := by
  intro k
  induction k with
  | zero => intro x hx; simp [opsL] at hx
  | succ k ih =>
    intro x hx
    unfold opsL at hx
    rcases List.mem_append.1 hx with h | h
    · exact ih x h
    · rw [List.eq_of_mem_replicate h]; rfl
theorem joinTail_len (r : List (List UInt8)) (h : ∀ x ∈ r, x.length = 2) : (Lib.joinTail [44] r).length = 3 * r.length := by
  unfold Lib.joinTail
  induction r with
  | nil => rfl
  | cons x r ih =>
    have := ih (fun y hy => h y (List.mem_cons_of_mem _ hy))
    have hx := h x (List.mem_cons_self ..)
    simp only [List.map_cons, List.flatten_cons, List.length_append, List.length_cons, List.length_nil] at *
    omega
theorem join_len (r : List (List UInt8)) (h : ∀ x ∈ r, x.length = 2) : (Lib.join r [44]).length ≤ 3 * r.length := by
  cases r with
  | nil => simp [Lib.join_nil]
  | cons x r =>
    rw [Lib.join_cons, List.length_append, joinTail_len r (fun y hy => h y (List.mem_cons_of_mem _ hy)), h x (List.mem_cons_self ..), List.length_cons]
    omega
theorem infoS : (Tryd.prog.info? 9).map (fun i => (i.zero, i.size, i.bytes)) = some (some (.string ByteArray.empty), 1, 16) := by kernel_rfl
def strV (l : List ByteArray) : List Value := l.map Value.string
theorem strV_len (l : List ByteArray) : (strV l).length = l.length * 1 := by simp [strV]
theorem opB_eq (i : Nat) : (⟨#[111]⟩ : ByteArray) ++ ⟨#[UInt8.ofNat (48 + i)]⟩ = opB i := by
  unfold opB
  rfl
theorem rep_snoc (l : List ByteArray) (x : ByteArray) (j : Nat) : l ++ List.replicate j x ++ [x] = l ++ List.replicate (j + 1) x := by
  rw [List.append_assoc, ← List.replicate_succ']
theorem dd0 : Lib.decDigits 0 = [48] := by rw [Lib.decDigits, dif_pos (by decide)]; decide
theorem ddi (i : Nat) (h : i < 10) : Lib.decDigits i = [UInt8.ofNat (48 + i)] := by rw [Lib.decDigits, dif_pos h]

/-- one more operation behind those that there are: 'ops = append(ops, "o" + ..)'. -/
theorem op_more {ops : Array Oper} {rest : List Oper} {o : Oper} {a : Act} {Q : Exit → Act → World → Prop} (hgd : o.guard = none) (s x : Operand) (W : World) (B : Nat) (hB : B ≤ W.heap.size) (ov : Value) (l : List ByteArray) (y : ByteArray)
    (ho : o.op = .call { callee := .builtin .append, args := #[s, x], argTypes := #[191, 191] })
    (hs : a.eval s = ov) (hx : a.eval x = .slice (some ⟨W.heap.size, 0, none⟩) 1 1) (hown : W.ownsRow B 9 1 ov l.length (strV l)) (hlen : l.length ≤ 1000)
    (h : ∀ v' w', w'.ownsRow B 9 1 v' (l ++ [y]).length (strV (l ++ [y])) → Below B W w' → wpList Tryd.prog ops Q rest (a.put o.dst v') w') :
    wpList Tryd.prog ops Q (o :: rest) a (W.alloc (.cells #[.string y] 9)) := by
  obtain ⟨i0, hi, hz0, hz1, hz2⟩ := info_parts infoS
  refine wpList_append_own _ hgd s x 191 ho B 9 i0 (.string ByteArray.empty) 1 16 Tryd.underlying191 hi hz0 hz1 hz2 rfl (by decide) ov l.length (strV l) hs (hown.alloc _) ⟨W.heap.size, 0, none⟩ 1 1 [.string y] hx rfl ?_ ?_ (by unfold maxLen; omega) (by omega) (by simp; omega) ?_
  · intro j u hj
    match j, hj with
    | 0, hj =>
      simp at hj; subst hj
      show (W.alloc _).cell? ⟨W.heap.size, 0, none⟩ = _
      simp
  · intro u hu; simp at hu; subst hu; rfl
  · intro v' w' hown' hgr _
    refine h v' w' (by simpa [strV] using hown') ?_
    have hsz := hgr.size
    simp at hsz
    refine ⟨hgr.os, hgr.tape, hgr.output, by omega, fun k hk => ?_⟩
    rw [hgr.block k (by simp; omega) ?_]
    · exact Below.heap_alloc W _ k (by omega)
    · intro e
      rcases hown.2 with ⟨rfl, _⟩ | ⟨g, cap, cur, rfl, hg, _⟩
      · simp [Value.ownBlock] at e
      · simp [Value.ownBlock] at e; omega
end Go.Proofs.YtfkdcconmecaoaaDoor

/- rows.Text, row.Text, walked. -/
namespace Go.Proofs.YtfkdcconmecaoaaDoor
open Go.RowKit
set_option linter.unusedVariables false
set_option linter.unusedSimpArgs false

theorem ba_ext {a b : ByteArray} (h : a.data.toList = b.data.toList) : a = b := by
  obtain ⟨x⟩ := a; obtain ⟨y⟩ := b
  exact congrArg ByteArray.mk (Array.ext' h)
theorem ret_s {a b : ByteArray} (h : a = b) : Ending.returned (.string a) = .returned (.string b) := by rw [h]
def TextPost (s : ByteArray) (w : World) (e : Ending) (w' : World) : Prop := e = .returned (.string s) ∧ Below w.heap.size w w'

set_option maxHeartbeats 2000000 in
set_option maxRecDepth 100000 in
theorem text_any (a b c d t : Int) (w : World) (h : mayR a b c d t = true) :
    Calls Tryd.prog 107 #[.agg #[.int .i64 a, .int .i64 b, .int .i64 c, .int .i64 d, .int .i64 t], .int .i64 0] w (TextPost (rowB a b c d t) w) := by
  have hm := of_decide_eq_true h
  clear h
  have hi0 : Hid (∀ W : World, (Instr.index 34 (.agg #[.int .i64 a, .int .i64 b, .int .i64 c, .int .i64 d]) (.int .i64 0)).run Tryd.prog W = .ok (.int .i64 a) W) := Lib.hid fun _ => by kernel_rfl
  have hi1 : Hid (∀ W : World, (Instr.index 34 (.agg #[.int .i64 a, .int .i64 b, .int .i64 c, .int .i64 d]) (.int .i64 1)).run Tryd.prog W = .ok (.int .i64 b) W) := Lib.hid fun _ => by kernel_rfl
  have hi2 : Hid (∀ W : World, (Instr.index 34 (.agg #[.int .i64 a, .int .i64 b, .int .i64 c, .int .i64 d]) (.int .i64 2)).run Tryd.prog W = .ok (.int .i64 c) W) := Lib.hid fun _ => by kernel_rfl
  have hi3 : Hid (∀ W : World, (Instr.index 34 (.agg #[.int .i64 a, .int .i64 b, .int .i64 c, .int .i64 d]) (.int .i64 3)).run Tryd.prog W = .ok (.int .i64 d) W) := Lib.hid fun _ => by kernel_rfl
  have hn32 : Hid (∀ i, cnt4 a b c d i ≤ 32) := Lib.hid fun i => by unfold cnt4; (repeat' split) <;> omega
  go_enter Tryd.func107, Tryd.ntmps107
  go_wp2_with fail
  go_loopw [5, 11] (fun o i wr => ∃ (k : Nat) (z : Int), k ≤ 4 ∧ i = .int .i64 z ∧ z = k ∧ Below (w.heap.size + 1) (w.alloc (.cells #[.int .i64 a, .int .i64 b, .int .i64 c, .int .i64 d, .int .i64 t] 36)) wr ∧ Hid (wr.ownsRow (w.heap.size + 1) 9 1 o (opsL (cnt4 a b c d) k).length (strV (opsL (cnt4 a b c d) k)))) (fun _ i _ => 4 - (intOf i).toNat)
  case atStart => exact ⟨0, 0, by omega, rfl, rfl, by (repeat' (first | with_reducible exact Below.refl _ _ | with_reducible assumption | with_reducible apply Below.setCell | with_reducible apply Below.alloc | with_reducible apply Below.drew | with_reducible apply below_drewN | with_reducible exact Nat.le_refl _ | (simp; done) | (simp; omega) | omega | exact Nat.le_refl _)), Lib.hid ⟨rfl, .inl ⟨rfl, rfl⟩⟩⟩
  case round =>
    obtain ⟨k, z, hk, rfl, hz, hbw, hown⟩ := hrel
    have hws : w.heap.size + 1 ≤ wr.heap.size := by have := hbw.size; simp at this; omega
    have hbW : Below w.heap.size w wr := (Joins.below_alloc1 w _).trans (hbw.mono (by omega))
    have hk5 : k = 0 ∨ k = 1 ∨ k = 2 ∨ k = 3 ∨ k = 4 := by omega
    rcases hk5 with rfl | rfl | rfl | rfl | rfl
    · obtain rfl : z = 0 := by omega
      clear hz
      obtain ⟨m, hm⟩ := Int.eq_ofNat_of_zero_le (by omega : 0 ≤ a)
      have hmle : m ≤ 32 := by omega
      have hnk : Hid (cnt4 a b c d 0 = m) := Lib.hid (by unfold cnt4; simp [hm])
      have hL := Lib.hid (opsL_len (cnt4 a b c d) 32 hn32.out 0)
      have hI : ∀ W : World, Calls Tryd.prog 91 #[.int .i64 0] W fun e w' => e = .returned (.string ⟨#[48]⟩) ∧ W = w' := fun W => (Tryd.strconv_Itoa_small 0 (by decide) W).mono fun e w' ⟨he, hw⟩ => ⟨by rw [he, ddi 0 (by decide)]; rfl, hw.symm⟩
      have hI' := Lib.hid hI; clear hI
      have hx0 := Lib.hid hm; clear hm
      have hix0 : ∀ W : World, (Instr.index 34 (.agg #[.int .i64 a, .int .i64 b, .int .i64 c, .int .i64 d]) (.int .i64 0)).run Tryd.prog W = .ok (.int .i64 m) W := fun W => by rw [← hx0.out]; exact hi0.out W
      go_wp2_with fail
      go_loopw [5, 16] (fun o j wr2 => ∃ jn : Nat, jn ≤ m ∧ j = .int .i64 jn ∧ Below (w.heap.size + 1) (w.alloc (.cells #[.int .i64 a, .int .i64 b, .int .i64 c, .int .i64 d, .int .i64 t] 36)) wr2 ∧ Hid (wr2.ownsRow (w.heap.size + 1) 9 1 o (opsL (cnt4 a b c d) 0 ++ List.replicate jn (opB 0)).length (strV (opsL (cnt4 a b c d) 0 ++ List.replicate jn (opB 0))))) (fun _ j _ => m - (intOf j).toNat)
      case atStart => exact ⟨0, by omega, rfl, hbw, Lib.hid (by simpa using hown.out)⟩
      case round =>
        obtain ⟨jn, hjm, rfl, hbw2, hown2⟩ := hrel
        have hws2 : w.heap.size + 1 ≤ wr.heap.size := by have := hbw2.size; simp at this; omega
        by_cases hlt : jn < m
        · have hlen : (opsL (cnt4 a b c d) 0 ++ List.replicate jn (opB 0)).length ≤ 1000 := by rw [List.length_append, List.length_replicate]; have := hL.out; omega
          have hlen' := Lib.hid hlen; clear hlen
          go_wp2_with fail
          refine (hI'.out _).mono ?_
          rintro e w' ⟨rfl, rfl⟩
          go_wp2_with (at_builtin; refine op_more rfl (.tmp 18) (.tmp 22) _ (w.heap.size + 1) hws2 _ (opsL (cnt4 a b c d) 0 ++ List.replicate jn (opB 0)) _ rfl rfl rfl hown2.out hlen'.out ?_; intro v' w1 hown1 hb1)
          have hown1' : Hid (w1.ownsRow (w.heap.size + 1) 9 1 v' (opsL (cnt4 a b c d) 0 ++ List.replicate (jn + 1) (opB 0)).length (strV (opsL (cnt4 a b c d) 0 ++ List.replicate (jn + 1) (opB 0)))) := Lib.hid (by rw [← rep_snoc]; exact hown1)
          clear hown1
          go_wp2_with fail
          go_roundw
          case rel => exact ⟨jn + 1, by omega, by go_num, hbw2.trans hb1, hown1'⟩
          case measure => simp [intOf] <;> omega
        · obtain rfl : jn = m := by omega
          go_wp2_with fail
          go_roundw
          case rel => exact ⟨0 + 1, 1, by omega, rfl, rfl, hbw2, Lib.hid (by have := hown2.out; rw [← hnk.out] at this; exact this)⟩
          case measure => simp [intOf] <;> omega
    · obtain rfl : z = 1 := by omega
      clear hz
      obtain ⟨m, hm⟩ := Int.eq_ofNat_of_zero_le (by omega : 0 ≤ b)
      have hmle : m ≤ 32 := by omega
      have hnk : Hid (cnt4 a b c d 1 = m) := Lib.hid (by unfold cnt4; simp [hm])
      have hL := Lib.hid (opsL_len (cnt4 a b c d) 32 hn32.out 1)
      have hI : ∀ W : World, Calls Tryd.prog 91 #[.int .i64 1] W fun e w' => e = .returned (.string ⟨#[49]⟩) ∧ W = w' := fun W => (Tryd.strconv_Itoa_small 1 (by decide) W).mono fun e w' ⟨he, hw⟩ => ⟨by rw [he, ddi 1 (by decide)]; rfl, hw.symm⟩
      have hI' := Lib.hid hI; clear hI
      have hx0 := Lib.hid hm; clear hm
      have hix1 : ∀ W : World, (Instr.index 34 (.agg #[.int .i64 a, .int .i64 b, .int .i64 c, .int .i64 d]) (.int .i64 1)).run Tryd.prog W = .ok (.int .i64 m) W := fun W => by rw [← hx0.out]; exact hi1.out W
      go_wp2_with fail
      go_loopw [5, 16] (fun o j wr2 => ∃ jn : Nat, jn ≤ m ∧ j = .int .i64 jn ∧ Below (w.heap.size + 1) (w.alloc (.cells #[.int .i64 a, .int .i64 b, .int .i64 c, .int .i64 d, .int .i64 t] 36)) wr2 ∧ Hid (wr2.ownsRow (w.heap.size + 1) 9 1 o (opsL (cnt4 a b c d) 1 ++ List.replicate jn (opB 1)).length (strV (opsL (cnt4 a b c d) 1 ++ List.replicate jn (opB 1))))) (fun _ j _ => m - (intOf j).toNat)
      case atStart => exact ⟨0, by omega, rfl, hbw, Lib.hid (by simpa using hown.out)⟩
      case round =>
        obtain ⟨jn, hjm, rfl, hbw2, hown2⟩ := hrel
        have hws2 : w.heap.size + 1 ≤ wr.heap.size := by have := hbw2.size; simp at this; omega
        by_cases hlt : jn < m
        · have hlen : (opsL (cnt4 a b c d) 1 ++ List.replicate jn (opB 1)).length ≤ 1000 := by rw [List.length_append, List.length_replicate]; have := hL.out; omega
          have hlen' := Lib.hid hlen; clear hlen
          go_wp2_with fail
          refine (hI'.out _).mono ?_
          rintro e w' ⟨rfl, rfl⟩
          go_wp2_with (at_builtin; refine op_more rfl (.tmp 18) (.tmp 22) _ (w.heap.size + 1) hws2 _ (opsL (cnt4 a b c d) 1 ++ List.replicate jn (opB 1)) _ rfl rfl rfl hown2.out hlen'.out ?_; intro v' w1 hown1 hb1)
          have hown1' : Hid (w1.ownsRow (w.heap.size + 1) 9 1 v' (opsL (cnt4 a b c d) 1 ++ List.replicate (jn + 1) (opB 1)).length (strV (opsL (cnt4 a b c d) 1 ++ List.replicate (jn + 1) (opB 1)))) := Lib.hid (by rw [← rep_snoc]; exact hown1)
          clear hown1
          go_wp2_with fail
          go_roundw
          case rel => exact ⟨jn + 1, by omega, by go_num, hbw2.trans hb1, hown1'⟩
          case measure => simp [intOf] <;> omega
        · obtain rfl : jn = m := by omega
          go_wp2_with fail
          go_roundw
          case rel => exact ⟨1 + 1, 2, by omega, rfl, rfl, hbw2, Lib.hid (by have := hown2.out; rw [← hnk.out] at this; exact this)⟩
          case measure => simp [intOf] <;> omega
    · obtain rfl : z = 2 := by omega
      clear hz
      obtain ⟨m, hm⟩ := Int.eq_ofNat_of_zero_le (by omega : 0 ≤ c)
      have hmle : m ≤ 32 := by omega
      have hnk : Hid (cnt4 a b c d 2 = m) := Lib.hid (by unfold cnt4; simp [hm])
      have hL := Lib.hid (opsL_len (cnt4 a b c d) 32 hn32.out 2)
      have hI : ∀ W : World, Calls Tryd.prog 91 #[.int .i64 2] W fun e w' => e = .returned (.string ⟨#[50]⟩) ∧ W = w' := fun W => (Tryd.strconv_Itoa_small 2 (by decide) W).mono fun e w' ⟨he, hw⟩ => ⟨by rw [he, ddi 2 (by decide)]; rfl, hw.symm⟩
      have hI' := Lib.hid hI; clear hI
      have hx0 := Lib.hid hm; clear hm
      have hix2 : ∀ W : World, (Instr.index 34 (.agg #[.int .i64 a, .int .i64 b, .int .i64 c, .int .i64 d]) (.int .i64 2)).run Tryd.prog W = .ok (.int .i64 m) W := fun W => by rw [← hx0.out]; exact hi2.out W
      go_wp2_with fail
      go_loopw [5, 16] (fun o j wr2 => ∃ jn : Nat, jn ≤ m ∧ j = .int .i64 jn ∧ Below (w.heap.size + 1) (w.alloc (.cells #[.int .i64 a, .int .i64 b, .int .i64 c, .int .i64 d, .int .i64 t] 36)) wr2 ∧ Hid (wr2.ownsRow (w.heap.size + 1) 9 1 o (opsL (cnt4 a b c d) 2 ++ List.replicate jn (opB 2)).length (strV (opsL (cnt4 a b c d) 2 ++ List.replicate jn (opB 2))))) (fun _ j _ => m - (intOf j).toNat)
      case atStart => exact ⟨0, by omega, rfl, hbw, Lib.hid (by simpa using hown.out)⟩
      case round =>
        obtain ⟨jn, hjm, rfl, hbw2, hown2⟩ := hrel
        have hws2 : w.heap.size + 1 ≤ wr.heap.size := by have := hbw2.size; simp at this; omega
        by_cases hlt : jn < m
        · have hlen : (opsL (cnt4 a b c d) 2 ++ List.replicate jn (opB 2)).length ≤ 1000 := by rw [List.length_append, List.length_replicate]; have := hL.out; omega
          have hlen' := Lib.hid hlen; clear hlen
          go_wp2_with fail
          refine (hI'.out _).mono ?_
          rintro e w' ⟨rfl, rfl⟩
          go_wp2_with (at_builtin; refine op_more rfl (.tmp 18) (.tmp 22) _ (w.heap.size + 1) hws2 _ (opsL (cnt4 a b c d) 2 ++ List.replicate jn (opB 2)) _ rfl rfl rfl hown2.out hlen'.out ?_; intro v' w1 hown1 hb1)
          have hown1' : Hid (w1.ownsRow (w.heap.size + 1) 9 1 v' (opsL (cnt4 a b c d) 2 ++ List.replicate (jn + 1) (opB 2)).length (strV (opsL (cnt4 a b c d) 2 ++ List.replicate (jn + 1) (opB 2)))) := Lib.hid (by rw [← rep_snoc]; exact hown1)
          clear hown1
          go_wp2_with fail
          go_roundw
          case rel => exact ⟨jn + 1, by omega, by go_num, hbw2.trans hb1, hown1'⟩
          case measure => simp [intOf] <;> omega
        · obtain rfl : jn = m := by omega
          go_wp2_with fail
          go_roundw
          case rel => exact ⟨2 + 1, 3, by omega, rfl, rfl, hbw2, Lib.hid (by have := hown2.out; rw [← hnk.out] at this; exact this)⟩
          case measure => simp [intOf] <;> omega
    · obtain rfl : z = 3 := by omega
      clear hz
      obtain ⟨m, hm⟩ := Int.eq_ofNat_of_zero_le (by omega : 0 ≤ d)
      have hmle : m ≤ 32 := by omega
      have hnk : Hid (cnt4 a b c d 3 = m) := Lib.hid (by unfold cnt4; simp [hm])
      have hL := Lib.hid (opsL_len (cnt4 a b c d) 32 hn32.out 3)
      have hI : ∀ W : World, Calls Tryd.prog 91 #[.int .i64 3] W fun e w' => e = .returned (.string ⟨#[51]⟩) ∧ W = w' := fun W => (Tryd.strconv_Itoa_small 3 (by decide) W).mono fun e w' ⟨he, hw⟩ => ⟨by rw [he, ddi 3 (by decide)]; rfl, hw.symm⟩
      have hI' := Lib.hid hI; clear hI
      have hx0 := Lib.hid hm; clear hm
      have hix3 : ∀ W : World, (Instr.index 34 (.agg #[.int .i64 a, .int .i64 b, .int .i64 c, .int .i64 d]) (.int .i64 3)).run Tryd.prog W = .ok (.int .i64 m) W := fun W => by rw [← hx0.out]; exact hi3.out W
      go_wp2_with fail
      go_loopw [5, 16] (fun o j wr2 => ∃ jn : Nat, jn ≤ m ∧ j = .int .i64 jn ∧ Below (w.heap.size + 1) (w.alloc (.cells #[.int .i64 a, .int .i64 b, .int .i64 c, .int .i64 d, .int .i64 t] 36)) wr2 ∧ Hid (wr2.ownsRow (w.heap.size + 1) 9 1 o (opsL (cnt4 a b c d) 3 ++ List.replicate jn (opB 3)).length (strV (opsL (cnt4 a b c d) 3 ++ List.replicate jn (opB 3))))) (fun _ j _ => m - (intOf j).toNat)
      case atStart => exact ⟨0, by omega, rfl, hbw, Lib.hid (by simpa using hown.out)⟩
      case round =>
        obtain ⟨jn, hjm, rfl, hbw2, hown2⟩ := hrel
        have hws2 : w.heap.size + 1 ≤ wr.heap.size := by have := hbw2.size; simp at this; omega
        by_cases hlt : jn < m
        · have hlen : (opsL (cnt4 a b c d) 3 ++ List.replicate jn (opB 3)).length ≤ 1000 := by rw [List.length_append, List.length_replicate]; have := hL.out; omega
          have hlen' := Lib.hid hlen; clear hlen
          go_wp2_with fail
          refine (hI'.out _).mono ?_
          rintro e w' ⟨rfl, rfl⟩
          go_wp2_with (at_builtin; refine op_more rfl (.tmp 18) (.tmp 22) _ (w.heap.size + 1) hws2 _ (opsL (cnt4 a b c d) 3 ++ List.replicate jn (opB 3)) _ rfl rfl rfl hown2.out hlen'.out ?_; intro v' w1 hown1 hb1)
          have hown1' : Hid (w1.ownsRow (w.heap.size + 1) 9 1 v' (opsL (cnt4 a b c d) 3 ++ List.replicate (jn + 1) (opB 3)).length (strV (opsL (cnt4 a b c d) 3 ++ List.replicate (jn + 1) (opB 3)))) := Lib.hid (by rw [← rep_snoc]; exact hown1)
          clear hown1
          go_wp2_with fail
          go_roundw
          case rel => exact ⟨jn + 1, by omega, by go_num, hbw2.trans hb1, hown1'⟩
          case measure => simp [intOf] <;> omega
        · obtain rfl : jn = m := by omega
          go_wp2_with fail
          go_roundw
          case rel => exact ⟨3 + 1, 4, by omega, rfl, rfl, hbw2, Lib.hid (by have := hown2.out; rw [← hnk.out] at this; exact this)⟩
          case measure => simp [intOf] <;> omega
    · obtain rfl : z = 4 := by omega
      clear hz
      have hlen := Lib.hid (opsL_len (cnt4 a b c d) 32 hn32.out 4)
      have hsz := Lib.hid (opsL_size (cnt4 a b c d) 4)
      have hI : ∀ W : World, Calls Tryd.prog 91 #[.int .i64 0] W fun e w' => e = .returned (.string ⟨#[48]⟩) ∧ W = w' := fun W => (Tryd.strconv_Itoa_small 0 (by decide) W).mono fun e w' ⟨he, hw⟩ => ⟨by rw [he, ddi 0 (by decide)]; rfl, hw.symm⟩
      have hI' := Lib.hid hI; clear hI
      obtain ⟨xs, hxs⟩ : ∃ xs, opsL (cnt4 a b c d) 4 = xs := ⟨_, rfl⟩
      rw [hxs] at hown hlen hsz
      obtain ⟨J, hJ⟩ : ∃ J, Lib.join (xs.map (·.data.toList)) (⟨#[44]⟩ : ByteArray).data.toList = J := ⟨_, rfl⟩
      have hJl : J.length ≤ 384 := by
        rw [← hJ]
        have h1 := join_len (xs.map (·.data.toList)) (by
          intro y hy
          obtain ⟨x, hx, rfl⟩ := List.mem_map.1 hy
          have e : x.size = x.data.toList.length := by simp
          rw [← e]; exact hsz.out x hx)
        have h2 := hlen.out
        rw [List.length_map] at h1
        exact Nat.le_trans h1 (by omega)
      have hJ' := Lib.hid hJ; clear hJ
      have hxs' := Lib.hid hxs; clear hxs
      have hc0 : wr.cell? ⟨w.heap.size, 4, none⟩ = some (.int .i64 t) := by
        rw [hbw.cell (p := ⟨w.heap.size, 4, none⟩) (by show _ < _; simp)]; simp
      rcases hown.out.2 with ⟨rfl, hz0⟩ | ⟨g, cap, cur, rfl, hg, hgh, hnc, hcm, hcs, hct⟩
      · have hx0 : xs = [] := List.eq_nil_of_length_eq_zero hz0
        have hx0' := Lib.hid hx0; clear hx0 hz0 hown
        by_cases ht : 0 ≤ t
        · go_wp2_with fail
          refine (Tryd.strings_Join_none _ _ _ _).mono ?_
          rintro e w' ⟨rfl, rfl⟩
          go_wp2_with fail
          refine (hI'.out _).mono ?_
          rintro e w' ⟨rfl, rfl⟩
          go_wp2_with fail
          go_ret
          exact ⟨ret_s (by unfold rowB; rw [hxs'.out, hx0'.out, if_pos ht]; apply ba_ext; simp [Lib.join_nil]), hbW⟩
        · go_wp2_with fail
          refine (Tryd.strings_Join_none _ _ _ _).mono ?_
          rintro e w' ⟨rfl, rfl⟩
          go_wp2_with fail
          go_ret
          exact ⟨ret_s (by unfold rowB; rw [hxs'.out, hx0'.out, if_neg (by omega)]; apply ba_ext; simp [Lib.join_nil]), hbW⟩
      · have hgl : g < wr.heap.size := by
          rcases Nat.lt_or_ge g wr.heap.size with hlt | hge
          · exact hlt
          · rw [Array.getElem?_eq_none hge] at hgh; cases hgh
        have hcell : Hid (∀ (j : Nat) x, xs[j]? = some x → wr.cell? ⟨g, 0 + j, none⟩ = some (.string x)) := Lib.hid (by
          intro j x hx
          have := hown.out.cells (g := g) rfl j (.string x) (by simp [strV, hx])
          rw [show (⟨g, 0, none⟩ : Addr).add j = ⟨g, 0 + j, none⟩ from by unfold Addr.add; split <;> simp_all] at this
          exact this)
        have hN : Hid (xs.length ≤ 140737488355328 ∧ xs.length ≤ cap) := Lib.hid ⟨by have := hlen.out; omega, hnc⟩
        clear hown hgh hnc hcm hcs hct
        by_cases ht : 0 ≤ t
        · go_wp2_with fail
          refine (Tryd.strings_Join g 0 cap xs _ _ hcell.out hgl hN.out.1 hN.out.2 (by rw [hJ'.out]; omega)).mono ?_
          rintro e w2 ⟨rfl, hb2⟩
          rw [hJ'.out]
          have hc2 : w2.cell? ⟨w.heap.size, 4, none⟩ = some (.int .i64 t) := by rw [hb2.cell (p := ⟨w.heap.size, 4, none⟩) (show w.heap.size < wr.heap.size by omega)]; exact hc0
          go_wp2_with fail
          refine (hI'.out _).mono ?_
          rintro e w' ⟨rfl, rfl⟩
          go_wp2_with fail
          go_ret
          exact ⟨ret_s (by unfold rowB; rw [hxs'.out, if_pos ht, ← hJ'.out]; apply ba_ext; simp), belT hbW hb2⟩
        · go_wp2_with fail
          refine (Tryd.strings_Join g 0 cap xs _ _ hcell.out hgl hN.out.1 hN.out.2 (by rw [hJ'.out]; omega)).mono ?_
          rintro e w2 ⟨rfl, hb2⟩
          rw [hJ'.out]
          have hc2 : w2.cell? ⟨w.heap.size, 4, none⟩ = some (.int .i64 t) := by rw [hb2.cell (p := ⟨w.heap.size, 4, none⟩) (show w.heap.size < wr.heap.size by omega)]; exact hc0
          go_wp2_with fail
          go_ret
          exact ⟨ret_s (by unfold rowB; rw [hxs'.out, if_neg (by omega), ← hJ'.out]; apply ba_ext; simp), belT hbW hb2⟩

def rtV (a b c d t : Int) : ByteArray := if mayR a b c d t then rowB a b c d t else ⟨#[]⟩
def rtE (a b c d t : Int) : Int := if mayR a b c d t then 0 else 800
theorem ret_si {a b : ByteArray} {k : IntKind} {c d : Int} (h : a = b) (h' : c = d) : Ending.returned (.tuple #[.string a, .int k c]) = .returned (.tuple #[.string b, .int k d]) := by rw [h, h']
end Go.Proofs.YtfkdcconmecaoaaDoor

/- The table of powers of ten; strconv.Itoa. -/
/- The table of powers of ten; strconv.Itoa. -/
namespace Go.Proofs.YtfkdcconmecaoaaDoor
open Go.RowKit
set_option linter.unusedVariables false
set_option linter.unusedSimpArgs false

abbrev TabW (w : World) : Prop := Lib.TabIs Tryd.prog w "internal/strconv.uint64pow10" .u64 Lib.pow10Tab
theorem below_grow (B : Nat) (w : World) (q : Nat) (os : Array Obj) (hB : B ≤ w.heap.size) : Below B w (Sort.grow (w.drewN q) os) :=
  ⟨rfl, rfl, rfl, by show w.heap.size ≤ (w.heap ++ os).size; simp, fun k hk => by
    show (w.heap ++ os)[k]? = w.heap[k]?
    exact Array.getElem?_append_left (by omega)⟩
theorem gPow : Tryd.prog.globalNamed "internal/strconv.uint64pow10" = some 3 := by kernel_rfl
theorem tab_keep {w w' : World} {B : Nat} (h : TabW w) (hb : Below B w w') (hB : w.heap.size ≤ B) : TabW w' := by
  exact Joins.tab_stays gPow h hb hB
/-- strconv.Itoa, the world behind it told by what lies below. -/
theorem itoa_any (n : Int) (w : World) (h0 : -9223372036854775808 ≤ n) (h1 : n ≤ 9223372036854775807) (ht : Hid (TabW w)) :
    Calls Tryd.prog 91 #[.int .i64 n] w fun e w' => e = .returned (.string ⟨(Lib.itoa n).toArray⟩) ∧ Below w.heap.size w w' :=
  (Tryd.strconv_Itoa n h0 h1 w ht.out).mono fun e w' ⟨he, k, os, hw⟩ => ⟨he, by subst hw; exact below_grow _ _ _ _ (Nat.le_refl _)⟩
theorem itoa_len (n : Int) (h0 : -9223372036854775808 ≤ n) (h1 : n ≤ 9223372036854775807) : (Lib.itoa n).length ≤ 21 := by
  have h2 : n.natAbs < 10 ^ 20 := by have : (9223372036854775808 : Nat) < 10 ^ 20 := by decide
                                     omega
  have h3 : n.toNat < 10 ^ 20 := by omega
  unfold Lib.itoa
  split
  · have := decDigits_le 20 n.natAbs (by decide) h2; simp; omega
  · have := decDigits_le 20 n.toNat (by decide) h3; omega
end Go.Proofs.YtfkdcconmecaoaaDoor

/- rows.Text with any number for the tail. -/
namespace Go.Proofs.YtfkdcconmecaoaaDoor
open Go.RowKit
set_option linter.unusedVariables false
set_option linter.unusedSimpArgs false

/-- a row's text with these digits for its tail. -/
def rowK (a b c d t : Int) (s : List UInt8) : ByteArray :=
  ⟨#[60]⟩ ++ ⟨(Lib.join ((opsL (cnt4 a b c d) 4).map (·.data.toList)) [44]).toArray⟩ ++ (if 0 ≤ t then ⟨#[124, 101]⟩ ++ ⟨s.toArray⟩ else ⟨#[]⟩) ++ ⟨#[62]⟩
set_option maxHeartbeats 2000000 in
set_option maxRecDepth 100000 in
theorem textk_any (a b c d t tl : Int) (w : World) (h : mayR a b c d t = true) (htl : 0 ≤ tl ∧ tl ≤ 1000000) (hT : Hid (TabW w)) :
    Calls Tryd.prog 107 #[.agg #[.int .i64 a, .int .i64 b, .int .i64 c, .int .i64 d, .int .i64 t], .int .i64 tl] w (TextPost (rowK a b c d t (Lib.itoa tl)) w) := by
  have hm := of_decide_eq_true h
  clear h
  have hTA : Hid (TabW (w.alloc (.cells #[.int .i64 a, .int .i64 b, .int .i64 c, .int .i64 d, .int .i64 t] 36))) := Lib.hid (tab_keep hT.out ((Below.refl w.heap.size _).alloc (Nat.le_refl _) _) (Nat.le_refl _))
  clear hT
  have hi0 : Hid (∀ W : World, (Instr.index 34 (.agg #[.int .i64 a, .int .i64 b, .int .i64 c, .int .i64 d]) (.int .i64 0)).run Tryd.prog W = .ok (.int .i64 a) W) := Lib.hid fun _ => by kernel_rfl
  have hi1 : Hid (∀ W : World, (Instr.index 34 (.agg #[.int .i64 a, .int .i64 b, .int .i64 c, .int .i64 d]) (.int .i64 1)).run Tryd.prog W = .ok (.int .i64 b) W) := Lib.hid fun _ => by kernel_rfl
  have hi2 : Hid (∀ W : World, (Instr.index 34 (.agg #[.int .i64 a, .int .i64 b, .int .i64 c, .int .i64 d]) (.int .i64 2)).run Tryd.prog W = .ok (.int .i64 c) W) := Lib.hid fun _ => by kernel_rfl
  have hi3 : Hid (∀ W : World, (Instr.index 34 (.agg #[.int .i64 a, .int .i64 b, .int .i64 c, .int .i64 d]) (.int .i64 3)).run Tryd.prog W = .ok (.int .i64 d) W) := Lib.hid fun _ => by kernel_rfl
  have hn32 : Hid (∀ i, cnt4 a b c d i ≤ 32) := Lib.hid fun i => by unfold cnt4; (repeat' split) <;> omega
  go_enter Tryd.func107, Tryd.ntmps107
  go_wp2_with fail
  go_loopw [5, 11] (fun o i wr => ∃ (k : Nat) (z : Int), k ≤ 4 ∧ i = .int .i64 z ∧ z = k ∧ Below (w.heap.size + 1) (w.alloc (.cells #[.int .i64 a, .int .i64 b, .int .i64 c, .int .i64 d, .int .i64 t] 36)) wr ∧ Hid (wr.ownsRow (w.heap.size + 1) 9 1 o (opsL (cnt4 a b c d) k).length (strV (opsL (cnt4 a b c d) k)))) (fun _ i _ => 4 - (intOf i).toNat)
  case atStart => exact ⟨0, 0, by omega, rfl, rfl, by (repeat' (first | with_reducible exact Below.refl _ _ | with_reducible assumption | with_reducible apply Below.setCell | with_reducible apply Below.alloc | with_reducible apply Below.drew | with_reducible apply below_drewN | with_reducible exact Nat.le_refl _ | (simp; done) | (simp; omega) | omega | exact Nat.le_refl _)), Lib.hid ⟨rfl, .inl ⟨rfl, rfl⟩⟩⟩
  case round =>
    obtain ⟨k, z, hk, rfl, hz, hbw, hown⟩ := hrel
    have hws : w.heap.size + 1 ≤ wr.heap.size := by have := hbw.size; simp at this; omega
    have hbW : Below w.heap.size w wr := (Joins.below_alloc1 w _).trans (hbw.mono (by omega))
    have hk5 : k = 0 ∨ k = 1 ∨ k = 2 ∨ k = 3 ∨ k = 4 := by omega
    rcases hk5 with rfl | rfl | rfl | rfl | rfl
    · obtain rfl : z = 0 := by omega
      clear hz
      obtain ⟨m, hm⟩ := Int.eq_ofNat_of_zero_le (by omega : 0 ≤ a)
      have hmle : m ≤ 32 := by omega
      have hnk : Hid (cnt4 a b c d 0 = m) := Lib.hid (by unfold cnt4; simp [hm])
      have hL := Lib.hid (opsL_len (cnt4 a b c d) 32 hn32.out 0)
      have hI : ∀ W : World, Calls Tryd.prog 91 #[.int .i64 0] W fun e w' => e = .returned (.string ⟨#[48]⟩) ∧ W = w' := fun W => (Tryd.strconv_Itoa_small 0 (by decide) W).mono fun e w' ⟨he, hw⟩ => ⟨by rw [he, ddi 0 (by decide)]; rfl, hw.symm⟩
      have hI' := Lib.hid hI; clear hI
      have hx0 := Lib.hid hm; clear hm
      have hix0 : ∀ W : World, (Instr.index 34 (.agg #[.int .i64 a, .int .i64 b, .int .i64 c, .int .i64 d]) (.int .i64 0)).run Tryd.prog W = .ok (.int .i64 m) W := fun W => by rw [← hx0.out]; exact hi0.out W
      go_wp2_with fail
      go_loopw [5, 16] (fun o j wr2 => ∃ jn : Nat, jn ≤ m ∧ j = .int .i64 jn ∧ Below (w.heap.size + 1) (w.alloc (.cells #[.int .i64 a, .int .i64 b, .int .i64 c, .int .i64 d, .int .i64 t] 36)) wr2 ∧ Hid (wr2.ownsRow (w.heap.size + 1) 9 1 o (opsL (cnt4 a b c d) 0 ++ List.replicate jn (opB 0)).length (strV (opsL (cnt4 a b c d) 0 ++ List.replicate jn (opB 0))))) (fun _ j _ => m - (intOf j).toNat)
      case atStart => exact ⟨0, by omega, rfl, hbw, Lib.hid (by simpa using hown.out)⟩
      case round =>
        obtain ⟨jn, hjm, rfl, hbw2, hown2⟩ := hrel
        have hws2 : w.heap.size + 1 ≤ wr.heap.size := by have := hbw2.size; simp at this; omega
        by_cases hlt : jn < m
        · have hlen : (opsL (cnt4 a b c d) 0 ++ List.replicate jn (opB 0)).length ≤ 1000 := by rw [List.length_append, List.length_replicate]; have := hL.out; omega
          have hlen' := Lib.hid hlen; clear hlen
          go_wp2_with fail
          refine (hI'.out _).mono ?_
          rintro e w' ⟨rfl, rfl⟩
          go_wp2_with (at_builtin; refine op_more rfl (.tmp 18) (.tmp 22) _ (w.heap.size + 1) hws2 _ (opsL (cnt4 a b c d) 0 ++ List.replicate jn (opB 0)) _ rfl rfl rfl hown2.out hlen'.out ?_; intro v' w1 hown1 hb1)
          have hown1' : Hid (w1.ownsRow (w.heap.size + 1) 9 1 v' (opsL (cnt4 a b c d) 0 ++ List.replicate (jn + 1) (opB 0)).length (strV (opsL (cnt4 a b c d) 0 ++ List.replicate (jn + 1) (opB 0)))) := Lib.hid (by rw [← rep_snoc]; exact hown1)
          clear hown1
          go_wp2_with fail
          go_roundw
          case rel => exact ⟨jn + 1, by omega, by go_num, hbw2.trans hb1, hown1'⟩
          case measure => simp [intOf] <;> omega
        · obtain rfl : jn = m := by omega
          go_wp2_with fail
          go_roundw
          case rel => exact ⟨0 + 1, 1, by omega, rfl, rfl, hbw2, Lib.hid (by have := hown2.out; rw [← hnk.out] at this; exact this)⟩
          case measure => simp [intOf] <;> omega
    · obtain rfl : z = 1 := by omega
      clear hz
      obtain ⟨m, hm⟩ := Int.eq_ofNat_of_zero_le (by omega : 0 ≤ b)
      have hmle : m ≤ 32 := by omega
      have hnk : Hid (cnt4 a b c d 1 = m) := Lib.hid (by unfold cnt4; simp [hm])
      have hL := Lib.hid (opsL_len (cnt4 a b c d) 32 hn32.out 1)
      have hI : ∀ W : World, Calls Tryd.prog 91 #[.int .i64 1] W fun e w' => e = .returned (.string ⟨#[49]⟩) ∧ W = w' := fun W => (Tryd.strconv_Itoa_small 1 (by decide) W).mono fun e w' ⟨he, hw⟩ => ⟨by rw [he, ddi 1 (by decide)]; rfl, hw.symm⟩
      have hI' := Lib.hid hI; clear hI
      have hx0 := Lib.hid hm; clear hm
      have hix1 : ∀ W : World, (Instr.index 34 (.agg #[.int .i64 a, .int .i64 b, .int .i64 c, .int .i64 d]) (.int .i64 1)).run Tryd.prog W = .ok (.int .i64 m) W := fun W => by rw [← hx0.out]; exact hi1.out W
      go_wp2_with fail
      go_loopw [5, 16] (fun o j wr2 => ∃ jn : Nat, jn ≤ m ∧ j = .int .i64 jn ∧ Below (w.heap.size + 1) (w.alloc (.cells #[.int .i64 a, .int .i64 b, .int .i64 c, .int .i64 d, .int .i64 t] 36)) wr2 ∧ Hid (wr2.ownsRow (w.heap.size + 1) 9 1 o (opsL (cnt4 a b c d) 1 ++ List.replicate jn (opB 1)).length (strV (opsL (cnt4 a b c d) 1 ++ List.replicate jn (opB 1))))) (fun _ j _ => m - (intOf j).toNat)
      case atStart => exact ⟨0, by omega, rfl, hbw, Lib.hid (by simpa using hown.out)⟩
      case round =>
        obtain ⟨jn, hjm, rfl, hbw2, hown2⟩ := hrel
        have hws2 : w.heap.size + 1 ≤ wr.heap.size := by have := hbw2.size; simp at this; omega
        by_cases hlt : jn < m
        · have hlen : (opsL (cnt4 a b c d) 1 ++ List.replicate jn (opB 1)).length ≤ 1000 := by rw [List.length_append, List.length_replicate]; have := hL.out; omega
          have hlen' := Lib.hid hlen; clear hlen
          go_wp2_with fail
          refine (hI'.out _).mono ?_
          rintro e w' ⟨rfl, rfl⟩
          go_wp2_with (at_builtin; refine op_more rfl (.tmp 18) (.tmp 22) _ (w.heap.size + 1) hws2 _ (opsL (cnt4 a b c d) 1 ++ List.replicate jn (opB 1)) _ rfl rfl rfl hown2.out hlen'.out ?_; intro v' w1 hown1 hb1)
          have hown1' : Hid (w1.ownsRow (w.heap.size + 1) 9 1 v' (opsL (cnt4 a b c d) 1 ++ List.replicate (jn + 1) (opB 1)).length (strV (opsL (cnt4 a b c d) 1 ++ List.replicate (jn + 1) (opB 1)))) := Lib.hid (by rw [← rep_snoc]; exact hown1)
          clear hown1
          go_wp2_with fail
          go_roundw
          case rel => exact ⟨jn + 1, by omega, by go_num, hbw2.trans hb1, hown1'⟩
          case measure => simp [intOf] <;> omega
        · obtain rfl : jn = m := by omega
          go_wp2_with fail
          go_roundw
          case rel => exact ⟨1 + 1, 2, by omega, rfl, rfl, hbw2, Lib.hid (by have := hown2.out; rw [← hnk.out] at this; exact this)⟩
          case measure => simp [intOf] <;> omega
    · obtain rfl : z = 2 := by omega
      clear hz
      obtain ⟨m, hm⟩ := Int.eq_ofNat_of_zero_le (by omega : 0 ≤ c)
      have hmle : m ≤ 32 := by omega
      have hnk : Hid (cnt4 a b c d 2 = m) := Lib.hid (by unfold cnt4; simp [hm])
      have hL := Lib.hid (opsL_len (cnt4 a b c d) 32 hn32.out 2)
      have hI : ∀ W : World, Calls Tryd.prog 91 #[.int .i64 2] W fun e w' => e = .returned (.string ⟨#[50]⟩) ∧ W = w' := fun W => (Tryd.strconv_Itoa_small 2 (by decide) W).mono fun e w' ⟨he, hw⟩ => ⟨by rw [he, ddi 2 (by decide)]; rfl, hw.symm⟩
      have hI' := Lib.hid hI; clear hI
      have hx0 := Lib.hid hm; clear hm
      have hix2 : ∀ W : World, (Instr.index 34 (.agg #[.int .i64 a, .int .i64 b, .int .i64 c, .int .i64 d]) (.int .i64 2)).run Tryd.prog W = .ok (.int .i64 m) W := fun W => by rw [← hx0.out]; exact hi2.out W
      go_wp2_with fail
      go_loopw [5, 16] (fun o j wr2 => ∃ jn : Nat, jn ≤ m ∧ j = .int .i64 jn ∧ Below (w.heap.size + 1) (w.alloc (.cells #[.int .i64 a, .int .i64 b, .int .i64 c, .int .i64 d, .int .i64 t] 36)) wr2 ∧ Hid (wr2.ownsRow (w.heap.size + 1) 9 1 o (opsL (cnt4 a b c d) 2 ++ List.replicate jn (opB 2)).length (strV (opsL (cnt4 a b c d) 2 ++ List.replicate jn (opB 2))))) (fun _ j _ => m - (intOf j).toNat)
      case atStart => exact ⟨0, by omega, rfl, hbw, Lib.hid (by simpa using hown.out)⟩
      case round =>
        obtain ⟨jn, hjm, rfl, hbw2, hown2⟩ := hrel
        have hws2 : w.heap.size + 1 ≤ wr.heap.size := by have := hbw2.size; simp at this; omega
        by_cases hlt : jn < m
        · have hlen : (opsL (cnt4 a b c d) 2 ++ List.replicate jn (opB 2)).length ≤ 1000 := by rw [List.length_append, List.length_replicate]; have := hL.out; omega
          have hlen' := Lib.hid hlen; clear hlen
          go_wp2_with fail
          refine (hI'.out _).mono ?_
          rintro e w' ⟨rfl, rfl⟩
          go_wp2_with (at_builtin; refine op_more rfl (.tmp 18) (.tmp 22) _ (w.heap.size + 1) hws2 _ (opsL (cnt4 a b c d) 2 ++ List.replicate jn (opB 2)) _ rfl rfl rfl hown2.out hlen'.out ?_; intro v' w1 hown1 hb1)
          have hown1' : Hid (w1.ownsRow (w.heap.size + 1) 9 1 v' (opsL (cnt4 a b c d) 2 ++ List.replicate (jn + 1) (opB 2)).length (strV (opsL (cnt4 a b c d) 2 ++ List.replicate (jn + 1) (opB 2)))) := Lib.hid (by rw [← rep_snoc]; exact hown1)
          clear hown1
          go_wp2_with fail
          go_roundw
          case rel => exact ⟨jn + 1, by omega, by go_num, hbw2.trans hb1, hown1'⟩
          case measure => simp [intOf] <;> omega
        · obtain rfl : jn = m := by omega
          go_wp2_with fail
          go_roundw
          case rel => exact ⟨2 + 1, 3, by omega, rfl, rfl, hbw2, Lib.hid (by have := hown2.out; rw [← hnk.out] at this; exact this)⟩
          case measure => simp [intOf] <;> omega
    · obtain rfl : z = 3 := by omega
      clear hz
      obtain ⟨m, hm⟩ := Int.eq_ofNat_of_zero_le (by omega : 0 ≤ d)
      have hmle : m ≤ 32 := by omega
      have hnk : Hid (cnt4 a b c d 3 = m) := Lib.hid (by unfold cnt4; simp [hm])
      have hL := Lib.hid (opsL_len (cnt4 a b c d) 32 hn32.out 3)
      have hI : ∀ W : World, Calls Tryd.prog 91 #[.int .i64 3] W fun e w' => e = .returned (.string ⟨#[51]⟩) ∧ W = w' := fun W => (Tryd.strconv_Itoa_small 3 (by decide) W).mono fun e w' ⟨he, hw⟩ => ⟨by rw [he, ddi 3 (by decide)]; rfl, hw.symm⟩
      have hI' := Lib.hid hI; clear hI
      have hx0 := Lib.hid hm; clear hm
      have hix3 : ∀ W : World, (Instr.index 34 (.agg #[.int .i64 a, .int .i64 b, .int .i64 c, .int .i64 d]) (.int .i64 3)).run Tryd.prog W = .ok (.int .i64 m) W := fun W => by rw [← hx0.out]; exact hi3.out W
      go_wp2_with fail
      go_loopw [5, 16] (fun o j wr2 => ∃ jn : Nat, jn ≤ m ∧ j = .int .i64 jn ∧ Below (w.heap.size + 1) (w.alloc (.cells #[.int .i64 a, .int .i64 b, .int .i64 c, .int .i64 d, .int .i64 t] 36)) wr2 ∧ Hid (wr2.ownsRow (w.heap.size + 1) 9 1 o (opsL (cnt4 a b c d) 3 ++ List.replicate jn (opB 3)).length (strV (opsL (cnt4 a b c d) 3 ++ List.replicate jn (opB 3))))) (fun _ j _ => m - (intOf j).toNat)
      case atStart => exact ⟨0, by omega, rfl, hbw, Lib.hid (by simpa using hown.out)⟩
      case round =>
        obtain ⟨jn, hjm, rfl, hbw2, hown2⟩ := hrel
        have hws2 : w.heap.size + 1 ≤ wr.heap.size := by have := hbw2.size; simp at this; omega
        by_cases hlt : jn < m
        · have hlen : (opsL (cnt4 a b c d) 3 ++ List.replicate jn (opB 3)).length ≤ 1000 := by rw [List.length_append, List.length_replicate]; have := hL.out; omega
          have hlen' := Lib.hid hlen; clear hlen
          go_wp2_with fail
          refine (hI'.out _).mono ?_
          rintro e w' ⟨rfl, rfl⟩
          go_wp2_with (at_builtin; refine op_more rfl (.tmp 18) (.tmp 22) _ (w.heap.size + 1) hws2 _ (opsL (cnt4 a b c d) 3 ++ List.replicate jn (opB 3)) _ rfl rfl rfl hown2.out hlen'.out ?_; intro v' w1 hown1 hb1)
          have hown1' : Hid (w1.ownsRow (w.heap.size + 1) 9 1 v' (opsL (cnt4 a b c d) 3 ++ List.replicate (jn + 1) (opB 3)).length (strV (opsL (cnt4 a b c d) 3 ++ List.replicate (jn + 1) (opB 3)))) := Lib.hid (by rw [← rep_snoc]; exact hown1)
          clear hown1
          go_wp2_with fail
          go_roundw
          case rel => exact ⟨jn + 1, by omega, by go_num, hbw2.trans hb1, hown1'⟩
          case measure => simp [intOf] <;> omega
        · obtain rfl : jn = m := by omega
          go_wp2_with fail
          go_roundw
          case rel => exact ⟨3 + 1, 4, by omega, rfl, rfl, hbw2, Lib.hid (by have := hown2.out; rw [← hnk.out] at this; exact this)⟩
          case measure => simp [intOf] <;> omega
    · obtain rfl : z = 4 := by omega
      clear hz
      have hlen := Lib.hid (opsL_len (cnt4 a b c d) 32 hn32.out 4)
      have hsz := Lib.hid (opsL_size (cnt4 a b c d) 4)
      have hil := itoa_len tl (by omega) (by omega)
      have hI' : Hid (∀ W : World, Below (w.heap.size + 1) (w.alloc (.cells #[.int .i64 a, .int .i64 b, .int .i64 c, .int .i64 d, .int .i64 t] 36)) W → Calls Tryd.prog 91 #[.int .i64 tl] W fun e w' => e = .returned (.string ⟨(Lib.itoa tl).toArray⟩) ∧ Below W.heap.size W w') := Lib.hid fun W hW =>
        itoa_any tl W (by omega) (by omega) (Lib.hid (tab_keep hTA.out hW (by simp)))
      obtain ⟨IT, hIT⟩ : ∃ x, Lib.itoa tl = x := ⟨_, rfl⟩
      rw [hIT] at hI' hil
      have hIT' := Lib.hid hIT
      clear hIT
      obtain ⟨xs, hxs⟩ : ∃ xs, opsL (cnt4 a b c d) 4 = xs := ⟨_, rfl⟩
      rw [hxs] at hown hlen hsz
      obtain ⟨J, hJ⟩ : ∃ J, Lib.join (xs.map (·.data.toList)) (⟨#[44]⟩ : ByteArray).data.toList = J := ⟨_, rfl⟩
      have hJl : J.length ≤ 384 := by
        rw [← hJ]
        have h1 := join_len (xs.map (·.data.toList)) (by
          intro y hy
          obtain ⟨x, hx, rfl⟩ := List.mem_map.1 hy
          have e : x.size = x.data.toList.length := by simp
          rw [← e]; exact hsz.out x hx)
        have h2 := hlen.out
        rw [List.length_map] at h1
        exact Nat.le_trans h1 (by omega)
      have hJ' := Lib.hid hJ; clear hJ
      have hxs' := Lib.hid hxs; clear hxs
      have hc0 : wr.cell? ⟨w.heap.size, 4, none⟩ = some (.int .i64 t) := by
        rw [hbw.cell (p := ⟨w.heap.size, 4, none⟩) (by show _ < _; simp)]; simp
      rcases hown.out.2 with ⟨rfl, hz0⟩ | ⟨g, cap, cur, rfl, hg, hgh, hnc, hcm, hcs, hct⟩
      · have hx0 : xs = [] := List.eq_nil_of_length_eq_zero hz0
        have hx0' := Lib.hid hx0; clear hx0 hz0 hown
        by_cases ht : 0 ≤ t
        · go_wp2_with fail
          refine (Tryd.strings_Join_none _ _ _ _).mono ?_
          rintro e w' ⟨rfl, rfl⟩
          go_wp2_with fail
          refine (hI'.out _ hbw).mono ?_
          rintro e w' ⟨rfl, hb9⟩
          go_wp2_with fail
          go_ret
          exact ⟨ret_s (by unfold rowK; rw [hxs'.out, hx0'.out, if_pos ht, hIT'.out] <;> (apply ba_ext; simp [Lib.join_nil])), belT hbW hb9⟩
        · go_wp2_with fail
          refine (Tryd.strings_Join_none _ _ _ _).mono ?_
          rintro e w' ⟨rfl, rfl⟩
          go_wp2_with fail
          go_ret
          exact ⟨ret_s (by unfold rowK; rw [hxs'.out, hx0'.out, if_neg (by omega)]; apply ba_ext; simp [Lib.join_nil]), hbW⟩
      · have hgl : g < wr.heap.size := by
          rcases Nat.lt_or_ge g wr.heap.size with hlt | hge
          · exact hlt
          · rw [Array.getElem?_eq_none hge] at hgh; cases hgh
        have hcell : Hid (∀ (j : Nat) x, xs[j]? = some x → wr.cell? ⟨g, 0 + j, none⟩ = some (.string x)) := Lib.hid (by
          intro j x hx
          have := hown.out.cells (g := g) rfl j (.string x) (by simp [strV, hx])
          rw [show (⟨g, 0, none⟩ : Addr).add j = ⟨g, 0 + j, none⟩ from by unfold Addr.add; split <;> simp_all] at this
          exact this)
        have hN : Hid (xs.length ≤ 140737488355328 ∧ xs.length ≤ cap) := Lib.hid ⟨by have := hlen.out; omega, hnc⟩
        clear hown hgh hnc hcm hcs hct
        by_cases ht : 0 ≤ t
        · go_wp2_with fail
          refine (Tryd.strings_Join g 0 cap xs _ _ hcell.out hgl hN.out.1 hN.out.2 (by rw [hJ'.out]; omega)).mono ?_
          rintro e w2 ⟨rfl, hb2⟩
          rw [hJ'.out]
          have hc2 : w2.cell? ⟨w.heap.size, 4, none⟩ = some (.int .i64 t) := by rw [hb2.cell (p := ⟨w.heap.size, 4, none⟩) (show w.heap.size < wr.heap.size by omega)]; exact hc0
          go_wp2_with fail
          refine (hI'.out _ (hbw.trans (hb2.mono (by have := hbw.size; simp at this; first | omega | done)))).mono ?_
          rintro e w' ⟨rfl, hb9⟩
          go_wp2_with fail
          go_ret
          exact ⟨ret_s (by unfold rowK; rw [hxs'.out, if_pos ht, ← hJ'.out, hIT'.out] <;> (apply ba_ext; simp)), belT (belT hbW hb2) hb9⟩
        · go_wp2_with fail
          refine (Tryd.strings_Join g 0 cap xs _ _ hcell.out hgl hN.out.1 hN.out.2 (by rw [hJ'.out]; omega)).mono ?_
          rintro e w2 ⟨rfl, hb2⟩
          rw [hJ'.out]
          have hc2 : w2.cell? ⟨w.heap.size, 4, none⟩ = some (.int .i64 t) := by rw [hb2.cell (p := ⟨w.heap.size, 4, none⟩) (show w.heap.size < wr.heap.size by omega)]; exact hc0
          go_wp2_with fail
          go_ret
          exact ⟨ret_s (by unfold rowK; rw [hxs'.out, if_neg (by omega), ← hJ'.out]; apply ba_ext; simp), belT hbW hb2⟩

end Go.Proofs.YtfkdcconmecaoaaDoor
