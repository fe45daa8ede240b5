/- Contracts of rows.Text, row.Text. -/
import Derived.Test.YtlbopoidjnaokaaDoorRwE
import Derived.Test.YtlbopoidjnaokaaDoorShelf
import Derived.Laws.AppendOwn
import Derived.Lib.SmallJoins
namespace Go.Proofs.YtlbopoidjnaokaaDoor
open Go.RowKit
set_option linter.unusedVariables false
set_option linter.unusedSimpArgs false

/-- an operation's text. -/
def opB (i : Nat) : ByteArray := ⟨#[111, UInt8.ofNat (48 + i)]⟩
/-- the operations of a row whose first k counts are all there, and j of the next one. -/
def opsL (n : Nat → Nat) : Nat → List ByteArray
  | 0 => []
  | k + 1 => opsL n k ++ List.replicate (n k) (opB k)
def cnt4 (a b c d : Int) (i : Nat) : Nat := (if i = 0 then a else if i = 1 then b else if i = 2 then c else d).toNat
def rowB (a b c d t : Int) : ByteArray :=
  ⟨#[60]⟩ ++ ⟨(Lib.join ((opsL (cnt4 a b c d) 4).map (·.data.toList)) [44]).toArray⟩ ++ (if 0 ≤ t then ⟨#[124, 101, 48]⟩ else ⟨#[]⟩) ++ ⟨#[62]⟩
theorem opsL_len (n : Nat → Nat) (M : Nat) (h : ∀ i, n i ≤ M) : ∀ k, (opsL n k).length ≤ k * M := by
  intro k
  induction k with
  | zero => simp [opsL]
  | succ k ih => unfold opsL; rw [List.length_append, List.length_replicate, Nat.add_mul]; have := h k; omega
theorem opsL_size (n : Nat → Nat) : ∀ k, ∀ x ∈ opsL n k, x.size = 2 := by
  intro k
  induction k with
  | zero => intro x hx; simp [opsL] at hx
  | succ k ih =>
    intro x hx
    unfold opsL at hx
    rcases List.mem_append.1 hx with h | h
    · exact ih x h
    · rw [List.eq_of_mem_replicate h]; rfl
theorem joinTail_len (r : List (List UInt8)) (h : ∀ x ∈ r, x.length = 2) : (Lib.joinTail [44] r).length = 3 * r.length := by
  unfold Lib.joinTail
  induction r with
  | nil => rfl
  | cons x r ih =>
    have := ih (fun y hy => h y (List.mem_cons_of_mem _ hy))
    have hx := h x (List.mem_cons_self ..)
    simp only [List.map_cons, List.flatten_cons, List.length_append, List.length_cons, List.length_nil] at *
    omega
theorem join_len (r : List (List UInt8)) (h : ∀ x ∈ r, x.length = 2) : (Lib.join r [44]).length ≤ 3 * r.length := by
  cases r with
  | nil => simp [Lib.join_nil]
  | cons x r =>
    rw [Lib.join_cons, List.length_append, joinTail_len r (fun y hy => h y (List.mem_cons_of_mem _ hy)), h x (List.mem_cons_self ..), List.length_cons]
    omega
theorem infoS : (Tryd.prog.info? 9).map (fun i => (i.zero, i.size, i.bytes)) = some (some (.string ByteArray.empty), 1, 16) := by kernel_rfl
def strV (l : List ByteArray) : List Value := l.map Value.string
theorem strV_len (l : List ByteArray) : (strV l).length = l.length * 1 := by simp [strV]
theorem opB_eq (i : Nat) : (⟨#[111]⟩ : ByteArray) ++ ⟨#[UInt8.ofNat (48 + i)]⟩ = opB i := by
  unfold opB
  rfl
theorem rep_snoc (l : List ByteArray) (x : ByteArray) (j : Nat) : l ++ List.replicate j x ++ [x] = l ++ List.replicate (j + 1) x := by
  rw [List.append_assoc, ← List.replicate_succ']
theorem dd0 : Lib.decDigits 0 = [48] := by rw [Lib.decDigits, dif_pos (by decide)]; decide
theorem ddi (i : Nat) (h : i < 10) : Lib.decDigits i = [UInt8.ofNat (48 + i)] := by rw [Lib.decDigits, dif_pos h]

/-- one more operation behind those that there are: 'ops = append(ops, "o" + ..)'. -/
theorem op_more {ops : Array Oper} {rest : List Oper} {o : Oper} {a : Act} {Q : Exit → Act → World → Prop} (hgd : o.guard = none) (s x : Operand) (W : World) (B : Nat) (hB : B ≤ W.heap.size) (ov : Value) (l : List ByteArray) (y : ByteArray)
    (ho : o.op = .call { callee := .builtin .append, args := #[s, x], argTypes := #[73, 73] })
    (hs : a.eval s = ov) (hx : a.eval x = .slice (some ⟨W.heap.size, 0, none⟩) 1 1) (hown : W.ownsRow B 9 1 ov l.length (strV l)) (hlen : l.length ≤ 1000)
    (h : ∀ v' w', w'.ownsRow B 9 1 v' (l ++ [y]).length (strV (l ++ [y])) → Below B W w' → wpList Tryd.prog ops Q rest (a.put o.dst v') w') :
    wpList Tryd.prog ops Q (o :: rest) a (W.alloc (.cells #[.string y] 9)) := by
  obtain ⟨i0, hi, hz0, hz1, hz2⟩ := info_parts infoS
  refine wpList_append_own _ hgd s x 73 ho B 9 i0 (.string ByteArray.empty) 1 16 Tryd.underlying73 hi hz0 hz1 hz2 rfl (by decide) ov l.length (strV l) hs (hown.alloc _) ⟨W.heap.size, 0, none⟩ 1 1 [.string y] hx rfl ?_ ?_ (by unfold maxLen; omega) (by omega) (by simp; omega) ?_
  · intro j u hj
    match j, hj with
    | 0, hj =>
      simp at hj; subst hj
      show (W.alloc _).cell? ⟨W.heap.size, 0, none⟩ = _
      simp
  · intro u hu; simp at hu; subst hu; rfl
  · intro v' w' hown' hgr _
    refine h v' w' (by simpa [strV] using hown') ?_
    have hsz := hgr.size
    simp at hsz
    refine ⟨hgr.os, hgr.tape, hgr.output, by omega, fun k hk => ?_⟩
    rw [hgr.block k (by simp; omega) ?_]
    · exact Below.heap_alloc W _ k (by omega)
    · intro e
      rcases hown.2 with ⟨rfl, _⟩ | ⟨g, cap, cur, rfl, hg, _⟩
      · simp [Value.ownBlock] at e
      · simp [Value.ownBlock] at e; omega
end Go.Proofs.YtlbopoidjnaokaaDoor
