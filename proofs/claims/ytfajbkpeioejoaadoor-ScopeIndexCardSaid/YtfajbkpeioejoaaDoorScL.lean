/- A name among functions one within the other: plain, for ScopeIndex. -/
import Derived.Test.YtfajbkpeioejoaaDoorScJ
import Derived.Test.YtfajbkpeioejoaaDoorScK
namespace Go.Proofs.YtfajbkpeioejoaaDoor
open Go.RowKit
set_option linter.unusedVariables false
set_option linter.unusedSimpArgs false

/-- a letter out of four. -/
def ltr (d : Nat) : ByteArray := ⟨#[UInt8.ofNat (97 + d)]⟩
def ixF (i d : Nat) : Nd := ⟨3, i, 0, 0, 0, ⟨#[]⟩, ltr d, ⟨#[]⟩, ⟨#[]⟩, 0⟩
def ixV (u : Nat) : Nd := ⟨0, 0, 0, 0, 0, ltr u, ⟨#[]⟩, ⟨#[]⟩, ⟨#[]⟩, 9⟩
/-- a use of a name, and functions around it, the innermost first. -/
def ixN (u : Nat) (row : List Nat) : List Nd := ixV u :: row.mapIdx ixF
theorem ixN_len (u : Nat) (row : List Nat) : (ixN u row).length = row.length + 1 := by simp [ixN]
theorem ixN_zero (u : Nat) (row : List Nat) : (ixN u row).getD 0 nd0 = ixV u := rfl
theorem ixN_succ (u : Nat) (row : List Nat) (i : Nat) (h : i < row.length) : (ixN u row).getD (i + 1) nd0 = ixF i row[i] := by
  simp [ixN, List.getD_eq_getElem?_getD, h]
theorem ixN_snoc (u : Nat) (row : List Nat) (d : Nat) : ixN u (row ++ [d]) = ixN u row ++ [ixF row.length d] := by
  simp [ixN, List.mapIdx_append]
theorem ix_ok : ∀ d, d < 4 → ∀ i, i < 64 → okNd (okNm true) (ixF i d) = true := by
  intro d hd i hi
  rw [ok_c]
  have h : d = 0 ∨ d = 1 ∨ d = 2 ∨ d = 3 := by omega
  rcases h with rfl | rfl | rfl | rfl <;> rfl
theorem ix_ok0 : ∀ d, d < 4 → okNd (okNm true) (ixV d) = true := by
  intro d hd
  rw [ok_c]
  have h : d = 0 ∨ d = 1 ∨ d = 2 ∨ d = 3 := by omega
  rcases h with rfl | rfl | rfl | rfl <;> rfl
theorem ix_bg (u : Nat) (row : List Nat) : ∀ i, i ≤ row.length → bg (ksN (ixN u row)) i = 0
  | 0, _ => by rw [bg_nil]; rfl; unfold ksN; rw [ixN_zero]; rfl
  | i + 1, h => by
    have hk : ksN (ixN u row) (i + 1) = [(i : Int)] := by unfold ksN; rw [ixN_succ u row i (by omega)]; rfl
    have hb := ix_bg u row i (by omega)
    rw [bg_eq, hk]
    show bgK _ [(i : Int)] _ = 0
    unfold bgK
    rw [if_pos (by omega), show (((i + 1 : Nat) : Int) - 1).toNat = i by omega, hb, if_neg (by omega)]
    rfl
theorem ix_may (u : Nat) (hu : u < 4) (row : List Nat) (hr : ∀ d ∈ row, d < 4) (hl : row.length ≤ 20) : mayV [] (ixN u row) = true := by
  unfold mayV treeV
  have h1 : opsV [] = true := rfl
  rw [h1, Bool.true_and]
  simp only [Bool.and_eq_true, List.all_eq_true, decide_eq_true_eq]
  refine ⟨⟨by rw [ixN_len]; omega, fun t ht => ?_⟩, by rw [ixN_len]; exact ix_bg u row _ (by omega)⟩
  unfold ixN at ht
  rcases List.mem_cons.1 ht with rfl | ht
  · exact ix_ok0 u hu
  · obtain ⟨i, hi, rfl⟩ := List.mem_mapIdx.1 ht
    exact ix_ok _ (hr _ (List.getElem_mem hi)) i (by omega)
theorem ix_res (u : Nat) (row : List Nat) : ∀ (at_ f : Nat) (bd : List ByteArray), at_ < f → at_ ≤ row.length →
    match nearI (bd ++ ((row.take at_).map ltr).reverse) (ltr u) with
    | none => resS [] f (ixN u row) at_ bd = .error (601, 9)
    | some i => ∃ ss, resS [] f (ixN u row) at_ bd = .ok ss ∧ ss.length = row.length + 1 ∧ (ss.getD 0 nd0).n = i
  | 0, f + 1, bd, _, _ => by
    simp only [List.take_zero, List.map_nil, List.reverse_nil, List.append_nil]
    unfold resS
    rw [ixN_zero]
    have hk : kidsS (ixV u) = [] := rfl
    cases hn : nearI bd (ltr u) with
    | none =>
      have hm : meanV [] bd (ixV u) = .error 601 := by
        unfold meanV
        rw [if_pos (show (ixV u).k = 0 from rfl), show (ixV u).nm = ltr u from rfl, hn]
      rw [hm]; rfl
    | some i =>
      have hm : meanV [] bd (ixV u) = .ok (i : Int) := by
        unfold meanV
        rw [if_pos (show (ixV u).k = 0 from rfl), show (ixV u).nm = ltr u from rfl, hn]
      rw [hm, hk]
      refine ⟨_, rfl, ?_, ?_⟩
      · rw [List.length_set, ixN_len]
      · rw [List.getD_eq_getElem?_getD, List.getElem?_set_self (by rw [ixN_len]; omega)]; rfl
  | at_ + 1, f + 1, bd, h1, h2 => by
    have ih := ix_res u row at_ f (bd ++ [ltr row[at_]]) (by omega) (by omega)
    have e : bd ++ [ltr row[at_]] ++ ((row.take at_).map ltr).reverse = bd ++ ((row.take (at_ + 1)).map ltr).reverse := by
      rw [List.take_succ_eq_append_getElem (by omega), List.map_append, List.reverse_append, List.append_assoc]; rfl
    rw [e] at ih
    have hx := ixN_succ u row at_ (by omega)
    have hk : kidsS (ixF at_ row[at_]) = [((at_ : Int), [ltr row[at_]])] := rfl
    have hm : meanV [] bd (ixF at_ row[at_]) = .ok 0 := rfl
    unfold resS
    rw [hx, hm]
    simp only [hk]
    unfold kidsRun
    have e2 : ((at_ : Int)).toNat = at_ := by omega
    rw [e2]
    cases hn : nearI (bd ++ ((row.take (at_ + 1)).map ltr).reverse) (ltr u) with
    | none =>
      rw [hn] at ih
      simp only [ih]
    | some i =>
      rw [hn] at ih
      obtain ⟨ss, h3, h4, h5⟩ := ih
      simp only [h3]
      unfold kidsRun
      refine ⟨_, rfl, ?_, ?_⟩
      · rw [List.length_set, h4]
      · rw [List.getD_eq_getElem?_getD, List.getElem?_set_ne (by omega), ← List.getD_eq_getElem?_getD, h5]
theorem ltr_eq : ∀ d, d < 4 → ∀ u, u < 4 → eqS (ltr d) (ltr u) = (d == u) := by
  intro d hd u hu
  rw [eq_c]
  have h : d = 0 ∨ d = 1 ∨ d = 2 ∨ d = 3 := by omega
  have h' : u = 0 ∨ u = 1 ∨ u = 2 ∨ u = 3 := by omega
  rcases h with rfl | rfl | rfl | rfl <;> rcases h' with rfl | rfl | rfl | rfl <;> rfl
/-- the first place of a letter, from j on, or none. -/
def wantJ (row : List Nat) (u j : Nat) : Int := match (row.drop j).findIdx? (· == u) with
  | some i => (j : Int) + i
  | none => -1
theorem wantJ_end (row : List Nat) (u : Nat) : wantJ row u row.length = -1 := by
  unfold wantJ; rw [List.drop_length]; rfl
theorem wantJ_step (row : List Nat) (u j : Nat) (h : j < row.length) : wantJ row u j = if row[j] = u then (j : Int) else wantJ row u (j + 1) := by
  unfold wantJ
  rw [List.drop_eq_getElem_cons h, List.findIdx?_cons]
  by_cases hd : row[j] = u
  · rw [if_pos hd, if_pos (by rw [hd]; exact beq_self_eq_true u)]; simp
  · rw [if_neg hd, if_neg (by simpa using hd)]
    cases (row.drop (j + 1)).findIdx? (· == u) with
    | none => rfl
    | some i => simp; omega
theorem near_row (u : Nat) (hu : u < 4) (row : List Nat) (hr : ∀ d ∈ row, d < 4) : nearI (((row.take row.length).map ltr).reverse) (ltr u) = row.findIdx? (· == u) := by
  unfold nearI
  rw [List.reverse_reverse, List.take_length, List.findIdx?_map]
  induction row with
  | nil => rfl
  | cons d row ih =>
    rw [List.findIdx?_cons, List.findIdx?_cons, ih (fun x hx => hr x (List.mem_cons_of_mem _ hx))]
    have := ltr_eq d (hr d (List.mem_cons_self)) u hu
    simp only [Function.comp, this]
/-- what Resolve tells of a name among functions. -/
theorem ix_resV (u : Nat) (hu : u < 4) (row : List Nat) (hr : ∀ d ∈ row, d < 4) (hl : row.length ≤ 20) :
    (wantJ row u 0 = -1 ∧ resV [] (ixN u row) = .error (601, 9)) ∨ (0 ≤ wantJ row u 0 ∧ ∃ ss, resV [] (ixN u row) = .ok ss ∧ ss.length = row.length + 1 ∧ (ss.getD 0 nd0).n = wantJ row u 0) := by
  have h := ix_res u row row.length (row.length + 1) [] (by omega) (by omega)
  rw [List.nil_append, near_row u hu row hr] at h
  have hv : resV [] (ixN u row) = resS [] (row.length + 1) (ixN u row) row.length [] := by
    unfold resV
    rw [ix_may u hu row hr hl, ixN_len]; rfl
  rw [hv]
  unfold wantJ
  rw [List.drop_zero]
  cases hf : row.findIdx? (· == u) with
  | none =>
    rw [hf] at h
    exact .inl ⟨rfl, h⟩
  | some i =>
    rw [hf] at h
    refine .inr ⟨by show (0 : Int) ≤ ((0 : Nat) : Int) + (i : Int); omega, ?_⟩
    obtain ⟨ss, h1, h2, h3⟩ := h
    exact ⟨ss, h1, h2, by rw [h3]; show (i : Int) = ((0 : Nat) : Int) + (i : Int); omega⟩
/-- an append of nodes, told by the blocks that stay. -/
theorem op_ndb {ops : Array Oper} {rest : List Oper} {o : Oper} {a : Act} {Q : Exit → Act → World → Prop} (hgd : o.guard = none) (s x : Operand) (W : World) (B : Nat) (hB : B ≤ W.heap.size) (ov : Value) (l ys : List Nd) (arr : Array Value)
    (ho : o.op = .call { callee := .builtin .append, args := #[s, x], argTypes := #[23, 23] })
    (hs : a.eval s = ov) (m : Nat) (hm : m = ys.length) (hx : a.eval x = .slice (some ⟨W.heap.size, 0, none⟩) m m) (harr : arr.toList = ndL ys) (hown : OwnN B W ov l) (hlen : (l.length + ys.length) * 112 ≤ 140737488355328)
    (h : ∀ v' w', OwnN B w' v' (l ++ ys) → Bar (fun k => ov.ownBlock = some k) W w' → wpList Tryd.prog ops Q rest (a.put o.dst v') w') :
    wpList Tryd.prog ops Q (o :: rest) a (W.alloc (.cells arr 34)) := by
  subst hm
  obtain ⟨i0, hi, hz0, hz1, hz2⟩ := info_parts infoNd
  refine wpList_append_own _ hgd s x 23 ho B 34 i0 (.agg #[.int .i64 0, .int .i64 0, .int .i64 0, .int .i64 0, .int .i64 0, .string ByteArray.empty, .string ByteArray.empty, .string ByteArray.empty, .string ByteArray.empty, .int .i64 0]) 10 112 Tryd.underlying23 hi hz0 hz1 hz2 rfl (by decide) ov l.length (ndL l) hs (World.ownsRow.alloc hown _) ⟨W.heap.size, 0, none⟩ ys.length ys.length (ndL ys) hx (ndL_len ys) ?_ (ndL_one ys) (by unfold maxLen; omega) (by omega) (by simp; omega) ?_
  · intro j u hj
    have e : (⟨W.heap.size, 0, none⟩ : Addr).add j = ⟨W.heap.size, j, none⟩ := by simp [Addr.add]; try omega
    rw [e, World.cell?_alloc_at _ _ _ _ rfl, ← hj, ← harr, Array.getElem?_toList]
  · intro v' w' hown' hgr hnil
    refine h v' w' (by unfold OwnN; rw [ndL_app, List.length_append]; exact hown') ?_
    have hsz := hgr.size
    simp at hsz
    refine ⟨hgr.os, hgr.tape, hgr.output, by omega, fun k hk hn => ?_⟩
    rw [hgr.block k (by simp; omega) (fun e => hn e.symm)]
    exact Below.heap_alloc W _ k (by omega)
theorem own_litN {B : Nat} (W : World) (arr : Array Value) (ts : List Nd) (h : arr.toList = ndL ts) (n : Nat) (hn : n = ts.length) (hB : B ≤ W.heap.size) (hs : n ≤ 1099511627776) : OwnN B (W.alloc (.cells arr 34)) (.slice (some ⟨W.heap.size, 0, none⟩) n n) ts := by
  subst hn
  have hl : arr.toList.length = ts.length * 10 := by rw [h, ndL_len]
  refine ⟨ndL_len _, .inr ⟨W.heap.size, ts.length, arr, rfl, hB, by show (W.heap.push _)[W.heap.size]? = _; simp, Nat.le_refl _, by unfold maxLen; omega, by simpa using hl, ?_⟩⟩
  rw [← hl, List.take_length, h]
theorem ltr_size (d : Nat) : (ltr d).size = 1 := rfl
theorem ix_sz (u : Nat) (row : List Nat) : ∀ t ∈ ixN u row, NdSz t := by
  intro t ht
  have h0 : (⟨#[]⟩ : ByteArray).size ≤ 1125899906842624 := by decide
  have h1 : ∀ d, (ltr d).size ≤ 1125899906842624 := fun d => by rw [ltr_size]; decide
  unfold ixN at ht
  rcases List.mem_cons.1 ht with rfl | ht
  · exact ⟨h1 u, h0, h0, h0⟩
  · obtain ⟨i, hi, rfl⟩ := List.mem_mapIdx.1 ht
    exact ⟨h0, h1 _, h0, h0⟩
end Go.Proofs.YtfajbkpeioejoaaDoor
