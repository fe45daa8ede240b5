/- What is printed, its parts, a tree's row: plain; what printing alone wants. -/
import Derived.Test.YtidlljookjicpaaGreatDoorBa0
import Derived.Test.YtidlljookjicpaaGreatDoorPwA
import Derived.Test.YtidlljookjicpaaGreatDoorMay
import Derived.Test.YtidlljookjicpaaGreatDoorPrg
import Derived.Test.YtidlljookjicpaaGreatDoorNdCo
import Derived.Test.YtidlljookjicpaaGreatDoorLxW
namespace Go.Proofs.YtidlljookjicpaaGreatDoor
open Go.RowKit
set_option linter.unusedVariables false
set_option linter.unusedSimpArgs false

theorem oarg_alloc (W : World) (arr : Array Value) (ts : List Or) (h : arr.toList = orL ts) (n : Nat) (hn : n = ts.length) : OArg (W.alloc (.cells arr 48)) (some ⟨W.heap.size, 0, none⟩) n ts := by
  refine ⟨hn, .inr ⟨W.heap.size, 0, rfl, orSl_of fun j u hj => ?_, by simp⟩⟩
  rw [Nat.zero_add, World.cell?_alloc_at _ _ _ _ rfl, ← hj, ← h, Array.getElem?_toList]
theorem nm_sz {x : ByteArray} (h : nmB x.data.toList = true) : x.size ≤ 1125899906842624 := by
  unfold nmB at h
  simp only [Bool.and_eq_true, decide_eq_true_eq] at h
  have := h.1.1
  show x.data.size ≤ _
  rw [← Array.length_toList]; omega
theorem e_sz {x : ByteArray} (h : x.data.toList = []) : x.size ≤ 1125899906842624 := by
  show x.data.size ≤ _
  rw [← Array.length_toList, h]; decide
theorem plain_sz {t : Nd} (hp : plainC t.k t.a t.b t.c t.n t.nm.data.toList t.x.data.toList t.y.data.toList t.z.data.toList = true) (hn : namedB t.k t.n (namesL t.k t.nm t.x t.y t.z) = true) : NdSz t := by
  obtain ⟨k, a, b, c, n, nm, x, y, z, p⟩ := t
  dsimp only at hp hn
  unfold namedB at hn
  rw [Bool.and_eq_true] at hn
  have hn := hn.2
  unfold plainC at hp
  show nm.size ≤ _ ∧ x.size ≤ _ ∧ y.size ≤ _ ∧ z.size ≤ _
  by_cases h0 : k = 0
  · subst h0
    rw [if_pos rfl, decide_eq_true_eq] at hp
    have hn : [nm].all (fun s => nmB s.data.toList) = true := hn
    rw [List.all_cons, Bool.and_eq_true] at hn
    exact ⟨nm_sz hn.1, e_sz hp.2.2.2.1, e_sz hp.2.2.2.2.1, e_sz hp.2.2.2.2.2⟩
  rw [if_neg h0] at hp
  by_cases h1 : k = 1 ∨ k = 2
  · rw [if_pos h1, decide_eq_true_eq] at hp
    exact ⟨e_sz hp.2.2.2.1, e_sz hp.2.2.2.2.1, e_sz hp.2.2.2.2.2.1, e_sz hp.2.2.2.2.2.2⟩
  rw [if_neg h1] at hp
  by_cases h3 : k = 3
  · subst h3
    rw [if_pos rfl, decide_eq_true_eq] at hp
    have hn : [x].all (fun s => nmB s.data.toList) = true := hn
    rw [List.all_cons, Bool.and_eq_true] at hn
    exact ⟨e_sz hp.2.2.2.1, nm_sz hn.1, e_sz hp.2.2.2.2.1, e_sz hp.2.2.2.2.2⟩
  rw [if_neg h3] at hp
  by_cases h4 : k = 4
  · rw [if_pos h4, decide_eq_true_eq] at hp
    exact ⟨e_sz hp.2.2.1, e_sz hp.2.2.2.1, e_sz hp.2.2.2.2.1, e_sz hp.2.2.2.2.2⟩
  rw [if_neg h4] at hp
  by_cases h5 : k = 5
  · subst h5
    rw [if_pos rfl, decide_eq_true_eq] at hp
    have hn : [x].all (fun s => nmB s.data.toList) = true := hn
    rw [List.all_cons, Bool.and_eq_true] at hn
    exact ⟨e_sz hp.2.2.1, nm_sz hn.1, e_sz hp.2.2.2.1, e_sz hp.2.2.2.2⟩
  rw [if_neg h5] at hp
  by_cases h6 : k = 6
  · subst h6
    rw [if_pos rfl, decide_eq_true_eq] at hp
    have hn : [x, y].all (fun s => nmB s.data.toList) = true := hn
    rw [List.all_cons, List.all_cons, Bool.and_eq_true, Bool.and_eq_true] at hn
    exact ⟨e_sz hp.2.2.1, nm_sz hn.1, nm_sz hn.2.1, e_sz hp.2.2.2⟩
  rw [if_neg h6] at hp
  by_cases h7 : k = 7
  · rw [if_pos h7, decide_eq_true_eq] at hp
    exact ⟨e_sz hp.2.1, e_sz hp.2.2.1, e_sz hp.2.2.2.1, e_sz hp.2.2.2.2⟩
  rw [if_neg h7] at hp
  by_cases h8 : k = 8
  · rw [if_pos h8, decide_eq_true_eq] at hp
    exact ⟨e_sz hp.2.1, e_sz hp.2.2.1, e_sz hp.2.2.2.1, e_sz hp.2.2.2.2⟩
  rw [if_neg h8] at hp
  by_cases h9 : k = 9
  · subst h9
    rw [if_pos rfl, decide_eq_true_eq] at hp
    have hn : [nm].all (fun s => nmB s.data.toList) = true := hn
    rw [List.all_cons, Bool.and_eq_true] at hn
    exact ⟨nm_sz hn.1, e_sz hp.2.2.1, e_sz hp.2.2.2.1, e_sz hp.2.2.2.2⟩
  rw [if_neg h9, decide_eq_true_eq] at hp
  subst hp
  have hn : [nm, x, y, z].all (fun s => nmB s.data.toList) = true := hn
  simp only [List.all_cons, Bool.and_eq_true] at hn
  exact ⟨nm_sz hn.1, nm_sz hn.2.1, nm_sz hn.2.2.1, nm_sz hn.2.2.2.1⟩
theorem ok_sz {t : Nd} (h : okNd (okNm true) t = true) : NdSz t := by
  unfold okNd okNm at h
  rw [plain_c] at h
  simp only [Bool.and_eq_true, if_true] at h
  exact plain_sz h.1.1.1.1 h.2
def bare0 (t : Nd) : Nd := { t with p := 0 }
theorem sameS_of {ns ms : List Nd} (h : ns.map bare0 = ms.map bare0) : sameV ndS ns ms = true := by
  have hl : ns.length = ms.length := by have := congrArg List.length h; simpa using this
  unfold sameV allR
  rw [decide_eq_true hl, Bool.true_and, List.all_eq_true]
  intro j hj
  have hj : j < ns.length := List.mem_range.1 hj
  have e : ∀ (l : List Nd), j < l.length → (l.map bare0)[j]? = some (bare0 (l.getD j nd0)) := fun l hl => by
    rw [List.getElem?_map, List.getD_eq_getElem?_getD, List.getElem?_eq_getElem hl]; rfl
  have k := e ns hj
  rw [h, e ms (by omega)] at k
  injection k with k
  show ndE (bare0 (ns.getD j nd0)) (bare0 (ms.getD j nd0)) = true
  rw [k]; exact ndE_self _
def bareE (t u : Nd) : Bool := decide (t.k = u.k) && decide (t.a = u.a) && decide (t.b = u.b) && decide (t.c = u.c) && decide (t.n = u.n) && decide (t.nm.data.toList = u.nm.data.toList) && decide (t.x.data.toList = u.x.data.toList) && decide (t.y.data.toList = u.y.data.toList) && decide (t.z.data.toList = u.z.data.toList)
theorem bareE_inj {t u : Nd} (h : bareE t u = true) : bare0 t = bare0 u := by
  obtain ⟨k, a, b, c, n, nm, x, y, z, p⟩ := t
  obtain ⟨k', a', b', c', n', nm', x', y', z', p'⟩ := u
  unfold bareE at h
  simp only [Bool.and_eq_true, decide_eq_true_eq] at h
  obtain ⟨⟨⟨⟨⟨⟨⟨⟨rfl, rfl⟩, rfl⟩, rfl⟩, rfl⟩, h1⟩, h2⟩, h3⟩, h4⟩ := h
  obtain rfl := ba_ext h1
  obtain rfl := ba_ext h2
  obtain rfl := ba_ext h3
  obtain rfl := ba_ext h4
  rfl
def rowE : List Nd → List Nd → Bool
  | [], [] => true
  | t :: l, u :: m => bareE t u && rowE l m
  | _, _ => false
theorem rowE_map : ∀ {ns ms : List Nd}, rowE ns ms = true → ns.map bare0 = ms.map bare0
  | [], [], _ => rfl
  | [], _ :: _, h => by cases h
  | _ :: _, [], h => by cases h
  | t :: ns, u :: ms, h => by
    unfold rowE at h
    rw [Bool.and_eq_true] at h
    rw [List.map_cons, List.map_cons, bareE_inj h.1, rowE_map h.2]
theorem sameS_l {ns ms : List Nd} (h : rowE ns ms = true) : sameV ndS ns ms = true := sameS_of (rowE_map h)
theorem bs_sizeL (l : List UInt8) : (bs l).size = l.length := by simp [bs, ByteArray.size]
/-- a part's nodes, their places none, the first at n. -/
def PT.fl : PT → Nat → List Nd
  | .var nm, _ => [⟨0, 0, 0, 0, 0, nm, ba0, ba0, ba0, 0⟩]
  | .int m, _ => [⟨1, 0, 0, 0, m, ba0, ba0, ba0, ba0, 0⟩]
  | .bol m, _ => [⟨2, 0, 0, 0, m, ba0, ba0, ba0, ba0, 0⟩]
  | .fn x a, n => a.fl n ++ [⟨3, (n + a.sz - 1 : Nat), 0, 0, 0, ba0, x, ba0, ba0, 0⟩]
  | .app a b, n => a.fl n ++ (b.fl (n + a.sz) ++ [⟨4, (n + a.sz - 1 : Nat), (n + a.sz + b.sz - 1 : Nat), 0, 0, ba0, ba0, ba0, ba0, 0⟩])
  | .lt x a b, n => a.fl n ++ (b.fl (n + a.sz) ++ [⟨5, (n + a.sz - 1 : Nat), (n + a.sz + b.sz - 1 : Nat), 0, 0, ba0, x, ba0, ba0, 0⟩])
  | .rc x y a b, n => a.fl n ++ (b.fl (n + a.sz) ++ [⟨6, (n + a.sz - 1 : Nat), (n + a.sz + b.sz - 1 : Nat), 0, 0, ba0, x, y, ba0, 0⟩])
  | .cd a b c, n => a.fl n ++ (b.fl (n + a.sz) ++ (c.fl (n + a.sz + b.sz) ++ [⟨7, (n + a.sz - 1 : Nat), (n + a.sz + b.sz - 1 : Nat), (n + a.sz + b.sz + c.sz - 1 : Nat), 0, ba0, ba0, ba0, ba0, 0⟩]))
  | .pr m a b, n => a.fl n ++ (b.fl (n + a.sz) ++ [⟨8, (n + a.sz - 1 : Nat), (n + a.sz + b.sz - 1 : Nat), 0, m, ba0, ba0, ba0, ba0, 0⟩])
  | .ac nm a, n => a.fl n ++ [⟨9, (n + a.sz - 1 : Nat), 0, 0, 0, nm, ba0, ba0, ba0, 0⟩]
  | .hn nm x y z a b c, n => a.fl n ++ (b.fl (n + a.sz) ++ (c.fl (n + a.sz + b.sz) ++ [⟨10, (n + a.sz - 1 : Nat), (n + a.sz + b.sz - 1 : Nat), (n + a.sz + b.sz + c.sz - 1 : Nat), 0, nm, x, y, z, 0⟩]))
def orOk (o : Or) : Prop := nmB o.nm.data.toList = true ∧ (o.f = 0 ∨ o.f = 1) ∧ (o.t = 0 ∨ o.t = 1)
/-- the text of a program, if it is one. -/
def outV (os : List Or) (T : PT) : Option (List UInt8) := if T.ins + 1 ≤ 40 ∧ (opsT os ++ T.tx).length ≤ 4096 then some (opsT os ++ T.tx) else none
structure MayT (os : List Or) (ts : List Nd) (T : PT) : Prop where
  at_ : T.At ts (ts.length - 1)
  ok : T.ok
  sz : T.sz = ts.length
  l1 : 1 ≤ ts.length
  l2 : ts.length ≤ 512
  o4 : os.length ≤ 4
  os : ∀ o ∈ os, orOk o
theorem may_T {os : List Or} {ts : List Nd} (h : mayV os ts = true) : ∃ T, MayT os ts T := by
  unfold mayV opsV treeV at h
  simp only [Bool.and_eq_true, decide_eq_true_eq] at h
  obtain ⟨⟨h4, ho⟩, ⟨⟨h1, h2⟩, hn⟩, hb⟩ := h
  obtain ⟨T, a1, a2, a3⟩ := at_of ts (fun i hi => List.all_eq_true.1 hn _ (by rw [List.getD_eq_getElem?_getD, List.getElem?_eq_getElem hi]; exact List.getElem_mem hi)) ts.length (ts.length - 1) (by omega) (by omega) (by omega)
  refine ⟨T, a1, a2, by omega, h1, h2, h4, fun o hm => ?_⟩
  have := List.all_eq_true.1 ho o hm
  unfold opOk baseB at this
  simp only [Bool.and_eq_true, decide_eq_true_eq] at this
  exact ⟨this.1.1, this.1.2, this.2⟩
def sgN (us : List Nd) (n k : Nat) : List Nd := (us.drop n).take k
theorem sgN_add (us : List Nd) (n k m : Nat) : sgN us n (k + m) = sgN us n k ++ sgN us (n + k) m := by
  unfold sgN
  rw [← List.drop_drop, List.take_add]
theorem sgN_one {us : List Nd} {i : Nat} (h : i < us.length) : sgN us i 1 = [us.getD i nd0] := by
  unfold sgN
  rw [List.drop_eq_getElem_cons h, List.getD_eq_getElem?_getD, List.getElem?_eq_getElem h]; rfl
theorem at_fl1 {us : List Nd} {n i : Nat} {k : Nat} (h : i < us.length) (e : n + k = i) : (sgN us n (k + 1)).map bare0 = (sgN us n k).map bare0 ++ [bare0 (us.getD i nd0)] := by
  rw [sgN_add, e, sgN_one h, List.map_append]; rfl
theorem PT.At_fl {us : List Nd} : ∀ (T : PT) (n : Nat), T.At us (n + T.sz - 1) → n + T.sz ≤ us.length → (sgN us n T.sz).map bare0 = T.fl n
  | .var nm, n, ⟨p, h⟩, hl => by
    have hl : n + 1 ≤ us.length := hl
    show (sgN us n 1).map bare0 = _
    have h : us.getD n nd0 = _ := h
    rw [sgN_one (by omega), h]; rfl
  | .int m, n, ⟨p, h⟩, hl => by
    have hl : n + 1 ≤ us.length := hl
    show (sgN us n 1).map bare0 = _
    have h : us.getD n nd0 = _ := h
    rw [sgN_one (by omega), h]; rfl
  | .bol m, n, ⟨p, h⟩, hl => by
    have hl : n + 1 ≤ us.length := hl
    show (sgN us n 1).map bare0 = _
    have h : us.getD n nd0 = _ := h
    rw [sgN_one (by omega), h]; rfl
  | .fn x a, n, ⟨j, p, e, h, h1⟩, hl => by
    have hl : n + (a.sz + 1) ≤ us.length := hl
    have e : n + (a.sz + 1) - 1 = j + 1 := e
    have h : us.getD (n + (a.sz + 1) - 1) nd0 = _ := h
    have := a.sz1
    obtain rfl : j = n + a.sz - 1 := by omega
    have i1 := a.At_fl n h1 (by omega)
    show (sgN us n (a.sz + 1)).map bare0 = _
    rw [at_fl1 (i := n + (a.sz + 1) - 1) (by omega) (by omega), i1, h]; rfl
  | .ac nm a, n, ⟨j, p, e, h, h1⟩, hl => by
    have hl : n + (a.sz + 1) ≤ us.length := hl
    have e : n + (a.sz + 1) - 1 = j + 1 := e
    have h : us.getD (n + (a.sz + 1) - 1) nd0 = _ := h
    have := a.sz1
    obtain rfl : j = n + a.sz - 1 := by omega
    have i1 := a.At_fl n h1 (by omega)
    show (sgN us n (a.sz + 1)).map bare0 = _
    rw [at_fl1 (i := n + (a.sz + 1) - 1) (by omega) (by omega), i1, h]; rfl
  | .app a b, n, ⟨j, k, p, e, e2, h, h1, h2⟩, hl => by
    have hl : n + (a.sz + b.sz + 1) ≤ us.length := hl
    have e : n + (a.sz + b.sz + 1) - 1 = k + 1 := e
    have h : us.getD (n + (a.sz + b.sz + 1) - 1) nd0 = _ := h
    have := a.sz1
    have := b.sz1
    obtain rfl : j = n + a.sz - 1 := by omega
    obtain rfl : k = n + a.sz + b.sz - 1 := by omega
    have i1 := a.At_fl n h1 (by omega)
    have i2 := b.At_fl (n + a.sz) h2 (by omega)
    show (sgN us n (a.sz + b.sz + 1)).map bare0 = _
    rw [at_fl1 (i := n + (a.sz + b.sz + 1) - 1) (by omega) (by omega), sgN_add, List.map_append, i1, i2, h, List.append_assoc]; rfl
  | .lt x a b, n, ⟨j, k, p, e, e2, h, h1, h2⟩, hl => by
    have hl : n + (a.sz + b.sz + 1) ≤ us.length := hl
    have e : n + (a.sz + b.sz + 1) - 1 = k + 1 := e
    have h : us.getD (n + (a.sz + b.sz + 1) - 1) nd0 = _ := h
    have := a.sz1
    have := b.sz1
    obtain rfl : j = n + a.sz - 1 := by omega
    obtain rfl : k = n + a.sz + b.sz - 1 := by omega
    have i1 := a.At_fl n h1 (by omega)
    have i2 := b.At_fl (n + a.sz) h2 (by omega)
    show (sgN us n (a.sz + b.sz + 1)).map bare0 = _
    rw [at_fl1 (i := n + (a.sz + b.sz + 1) - 1) (by omega) (by omega), sgN_add, List.map_append, i1, i2, h, List.append_assoc]; rfl
  | .rc x y a b, n, ⟨j, k, p, e, e2, h, h1, h2⟩, hl => by
    have hl : n + (a.sz + b.sz + 1) ≤ us.length := hl
    have e : n + (a.sz + b.sz + 1) - 1 = k + 1 := e
    have h : us.getD (n + (a.sz + b.sz + 1) - 1) nd0 = _ := h
    have := a.sz1
    have := b.sz1
    obtain rfl : j = n + a.sz - 1 := by omega
    obtain rfl : k = n + a.sz + b.sz - 1 := by omega
    have i1 := a.At_fl n h1 (by omega)
    have i2 := b.At_fl (n + a.sz) h2 (by omega)
    show (sgN us n (a.sz + b.sz + 1)).map bare0 = _
    rw [at_fl1 (i := n + (a.sz + b.sz + 1) - 1) (by omega) (by omega), sgN_add, List.map_append, i1, i2, h, List.append_assoc]; rfl
  | .pr m a b, n, ⟨j, k, p, e, e2, h, h1, h2⟩, hl => by
    have hl : n + (a.sz + b.sz + 1) ≤ us.length := hl
    have e : n + (a.sz + b.sz + 1) - 1 = k + 1 := e
    have h : us.getD (n + (a.sz + b.sz + 1) - 1) nd0 = _ := h
    have := a.sz1
    have := b.sz1
    obtain rfl : j = n + a.sz - 1 := by omega
    obtain rfl : k = n + a.sz + b.sz - 1 := by omega
    have i1 := a.At_fl n h1 (by omega)
    have i2 := b.At_fl (n + a.sz) h2 (by omega)
    show (sgN us n (a.sz + b.sz + 1)).map bare0 = _
    rw [at_fl1 (i := n + (a.sz + b.sz + 1) - 1) (by omega) (by omega), sgN_add, List.map_append, i1, i2, h, List.append_assoc]; rfl
  | .cd a b c, n, ⟨j, k, m, p, e, e2, e3, h, h1, h2, h3⟩, hl => by
    have hl : n + (a.sz + b.sz + c.sz + 1) ≤ us.length := hl
    have e : n + (a.sz + b.sz + c.sz + 1) - 1 = m + 1 := e
    have h : us.getD (n + (a.sz + b.sz + c.sz + 1) - 1) nd0 = _ := h
    have := a.sz1
    have := b.sz1
    have := c.sz1
    obtain rfl : j = n + a.sz - 1 := by omega
    obtain rfl : k = n + a.sz + b.sz - 1 := by omega
    obtain rfl : m = n + a.sz + b.sz + c.sz - 1 := by omega
    have i1 := a.At_fl n h1 (by omega)
    have i2 := b.At_fl (n + a.sz) h2 (by omega)
    have i3 := c.At_fl (n + a.sz + b.sz) h3 (by omega)
    show (sgN us n (a.sz + b.sz + c.sz + 1)).map bare0 = _
    rw [at_fl1 (i := n + (a.sz + b.sz + c.sz + 1) - 1) (by omega) (by omega), sgN_add, sgN_add, List.map_append, List.map_append, i1, i2, ← Nat.add_assoc, i3, h, List.append_assoc, List.append_assoc]; rfl
  | .hn nm x y z a b c, n, ⟨j, k, m, p, e, e2, e3, h, h1, h2, h3⟩, hl => by
    have hl : n + (a.sz + b.sz + c.sz + 1) ≤ us.length := hl
    have e : n + (a.sz + b.sz + c.sz + 1) - 1 = m + 1 := e
    have h : us.getD (n + (a.sz + b.sz + c.sz + 1) - 1) nd0 = _ := h
    have := a.sz1
    have := b.sz1
    have := c.sz1
    obtain rfl : j = n + a.sz - 1 := by omega
    obtain rfl : k = n + a.sz + b.sz - 1 := by omega
    obtain rfl : m = n + a.sz + b.sz + c.sz - 1 := by omega
    have i1 := a.At_fl n h1 (by omega)
    have i2 := b.At_fl (n + a.sz) h2 (by omega)
    have i3 := c.At_fl (n + a.sz + b.sz) h3 (by omega)
    show (sgN us n (a.sz + b.sz + c.sz + 1)).map bare0 = _
    rw [at_fl1 (i := n + (a.sz + b.sz + c.sz + 1) - 1) (by omega) (by omega), sgN_add, sgN_add, List.map_append, List.map_append, i1, i2, ← Nat.add_assoc, i3, h, List.append_assoc, List.append_assoc]; rfl
theorem MayT.fl {os : List Or} {ts : List Nd} {T : PT} (h : MayT os ts T) : ts.map bare0 = T.fl 0 := by
  have hs := h.sz
  have := T.At_fl (us := ts) 0 (by rw [hs, Nat.zero_add]; exact h.at_) (by omega)
  rw [hs] at this
  unfold sgN at this
  rw [List.drop_zero, List.take_length] at this
  exact this
theorem bare_getD {us vs : List Nd} (h : us.map bare0 = vs.map bare0) (i : Nat) : bare0 (us.getD i nd0) = bare0 (vs.getD i nd0) := by
  have e : ∀ l : List Nd, bare0 (l.getD i nd0) = (l.map bare0).getD i nd0 := fun l => by
    rw [List.getD_eq_getElem?_getD, List.getD_eq_getElem?_getD, List.getElem?_map]
    cases l[i]? <;> rfl
  rw [e, e, h]
theorem bare_node {t u v : Nd} (h : bare0 t = bare0 u) (ht : t = v) : ∃ p, u = ⟨v.k, v.a, v.b, v.c, v.n, v.nm, v.x, v.y, v.z, p⟩ := by
  subst ht
  obtain ⟨k, a, b, c, n, nm, x, y, z, p⟩ := t
  obtain ⟨k', a', b', c', n', nm', x', y', z', p'⟩ := u
  unfold bare0 at h
  dsimp only at h
  injection h with h1 h2 h3 h4 h5 h6 h7 h8 h9
  subst h1; subst h2; subst h3; subst h4; subst h5; subst h6; subst h7; subst h8; subst h9
  exact ⟨p', rfl⟩
theorem PT.At.bare {us vs : List Nd} (h : us.map bare0 = vs.map bare0) : ∀ {T : PT} {i : Nat}, T.At us i → T.At vs i
  | .var nm, i, ⟨p, e⟩ => bare_node (bare_getD h i) e
  | .int nm, i, ⟨p, e⟩ => bare_node (bare_getD h i) e
  | .bol nm, i, ⟨p, e⟩ => bare_node (bare_getD h i) e
  | .fn x a, i, ⟨j, p, e1, e, h1⟩ => by obtain ⟨q, e⟩ := bare_node (bare_getD h i) e; exact ⟨j, q, e1, e, h1.bare h⟩
  | .app a b, i, ⟨j, k, p, e1, e2, e, h1, h2⟩ => by obtain ⟨q, e⟩ := bare_node (bare_getD h i) e; exact ⟨j, k, q, e1, e2, e, h1.bare h, h2.bare h⟩
  | .lt x a b, i, ⟨j, k, p, e1, e2, e, h1, h2⟩ => by obtain ⟨q, e⟩ := bare_node (bare_getD h i) e; exact ⟨j, k, q, e1, e2, e, h1.bare h, h2.bare h⟩
  | .rc x y a b, i, ⟨j, k, p, e1, e2, e, h1, h2⟩ => by obtain ⟨q, e⟩ := bare_node (bare_getD h i) e; exact ⟨j, k, q, e1, e2, e, h1.bare h, h2.bare h⟩
  | .cd a b c, i, ⟨j, k, m, p, e1, e2, e3, e, h1, h2, h3⟩ => by obtain ⟨q, e⟩ := bare_node (bare_getD h i) e; exact ⟨j, k, m, q, e1, e2, e3, e, h1.bare h, h2.bare h, h3.bare h⟩
  | .pr n a b, i, ⟨j, k, p, e1, e2, e, h1, h2⟩ => by obtain ⟨q, e⟩ := bare_node (bare_getD h i) e; exact ⟨j, k, q, e1, e2, e, h1.bare h, h2.bare h⟩
  | .ac nm a, i, ⟨j, p, e1, e, h1⟩ => by obtain ⟨q, e⟩ := bare_node (bare_getD h i) e; exact ⟨j, q, e1, e, h1.bare h⟩
  | .hn nm x y z a b c, i, ⟨j, k, m, p, e1, e2, e3, e, h1, h2, h3⟩ => by obtain ⟨q, e⟩ := bare_node (bare_getD h i) e; exact ⟨j, k, m, q, e1, e2, e3, e, h1.bare h, h2.bare h, h3.bare h⟩
theorem PT.tx_len2 : ∀ (T : PT), T.ok → T.tx.length + 2 ≤ T.sz * 100
  | .var nm, h => by have := nm_len h; show nm.data.toList.length + 2 ≤ 1 * 100; omega
  | .int n, h => by have := itoa_l30 h.1 h.2; show (Lib.itoa n).length + 2 ≤ 1 * 100; omega
  | .bol n, h => by simp only [PT.tx, PT.sz]; split <;> simp
  | .fn x a, h => by have := nm_len h.1; have := a.tx_len2 h.2; simp only [PT.tx, PT.sz, List.length_append, List.length_cons, List.length_nil]; omega
  | .app a b, h => by have := a.tx_len2 h.1; have := b.tx_len2 h.2; have := brS_len a.atm a.tx; have := brS_len b.atm b.tx; simp only [PT.tx, PT.sz, List.length_append, List.length_cons, List.length_nil]; omega
  | .lt x a b, h => by have := nm_len h.1; have := a.tx_len2 h.2.1; have := b.tx_len2 h.2.2; simp only [PT.tx, PT.sz, List.length_append, List.length_cons, List.length_nil]; omega
  | .rc x y a b, h => by have := nm_len h.1.1; have := nm_len h.1.2; have := a.tx_len2 h.2.1; have := b.tx_len2 h.2.2; simp only [PT.tx, PT.sz, List.length_append, List.length_cons, List.length_nil]; omega
  | .cd a b c, h => by have := a.tx_len2 h.1; have := b.tx_len2 h.2.1; have := c.tx_len2 h.2.2; simp only [PT.tx, PT.sz, List.length_append, List.length_cons, List.length_nil]; omega
  | .pr n a b, h => by have := sgT_len n; have := a.tx_len2 h.2.1; have := b.tx_len2 h.2.2; have := brS_len a.atm a.tx; have := brS_len b.atm b.tx; simp only [PT.tx, PT.sz, List.length_append, List.length_cons, List.length_nil]; omega
  | .ac nm a, h => by have := nm_len h.1; have := a.tx_len2 h.2; have := brS_len a.atm a.tx; simp only [PT.tx, PT.sz, List.length_append, List.length_cons, List.length_nil]; omega
  | .hn nm x y z a b c, h => by have := nm_len h.1.1; have := nm_len h.1.2.1; have := nm_len h.1.2.2.1; have := nm_len h.1.2.2.2; have := a.tx_len2 h.2.1; have := b.tx_len2 h.2.2.1; have := c.tx_len2 h.2.2.2; simp only [PT.tx, PT.sz, List.length_append, List.length_cons, List.length_nil]; omega
theorem bsT_len (k : Int) : (bsT k).length ≤ 4 := by unfold bsT; split <;> simp
theorem opsT_len : ∀ {os : List Or}, (∀ o ∈ os, orOk o) → (opsT os).length ≤ os.length * 36
  | [], _ => Nat.le_refl 0
  | o :: os, h => by
    have ih := opsT_len fun o ho => h o (.tail _ ho)
    have hn := nm_len (h o (.head _)).1
    have h1 := bsT_len o.f
    have h2 := bsT_len o.t
    show ((o :: os).flatMap opT).length ≤ _
    rw [List.flatMap_cons, List.length_append]
    have : (os.flatMap opT).length = (opsT os).length := rfl
    simp only [opT, List.length_append, List.length_cons, List.length_nil]; omega
theorem PT.fl_len : ∀ (T : PT) (n : Nat), (T.fl n).length = T.sz
  | .var _, _ => rfl
  | .int _, _ => rfl
  | .bol _, _ => rfl
  | .fn _ a, n => by simp only [PT.fl, PT.sz, List.length_append, List.length_cons, List.length_nil, a.fl_len]; try omega
  | .app a b, n => by simp only [PT.fl, PT.sz, List.length_append, List.length_cons, List.length_nil, a.fl_len, b.fl_len]; try omega
  | .lt _ a b, n => by simp only [PT.fl, PT.sz, List.length_append, List.length_cons, List.length_nil, a.fl_len, b.fl_len]; try omega
  | .rc _ _ a b, n => by simp only [PT.fl, PT.sz, List.length_append, List.length_cons, List.length_nil, a.fl_len, b.fl_len]; try omega
  | .cd a b c, n => by simp only [PT.fl, PT.sz, List.length_append, List.length_cons, List.length_nil, a.fl_len, b.fl_len, c.fl_len]; try omega
  | .pr _ a b, n => by simp only [PT.fl, PT.sz, List.length_append, List.length_cons, List.length_nil, a.fl_len, b.fl_len]; try omega
  | .ac _ a, n => by simp only [PT.fl, PT.sz, List.length_append, List.length_cons, List.length_nil, a.fl_len]; try omega
  | .hn _ _ _ _ a b c, n => by simp only [PT.fl, PT.sz, List.length_append, List.length_cons, List.length_nil, a.fl_len, b.fl_len, c.fl_len]; try omega
theorem sgN_len {us : List Nd} {n k : Nat} (h : n + k ≤ us.length) : ((sgN us n k).map bare0).length = k := by
  unfold sgN; simp; omega
theorem of_bare {u v : Nd} (h : bare0 u = v) (hv : v.p = 0) : ∃ p, u = ⟨v.k, v.a, v.b, v.c, v.n, v.nm, v.x, v.y, v.z, p⟩ := by
  subst h; exact ⟨u.p, rfl⟩
theorem PT.of_fl {us : List Nd} : ∀ (T : PT) (n : Nat), (sgN us n T.sz).map bare0 = T.fl n → n + T.sz ≤ us.length → T.At us (n + T.sz - 1)
  | .var m, n, h, hl => by
    have hl : n + 1 ≤ us.length := hl
    have h : (sgN us n 1).map bare0 = _ := h
    rw [sgN_one (by omega)] at h
    injection h with h _
    exact of_bare (u := us.getD n nd0) h rfl
  | .int m, n, h, hl => by
    have hl : n + 1 ≤ us.length := hl
    have h : (sgN us n 1).map bare0 = _ := h
    rw [sgN_one (by omega)] at h
    injection h with h _
    exact of_bare (u := us.getD n nd0) h rfl
  | .bol m, n, h, hl => by
    have hl : n + 1 ≤ us.length := hl
    have h : (sgN us n 1).map bare0 = _ := h
    rw [sgN_one (by omega)] at h
    injection h with h _
    exact of_bare (u := us.getD n nd0) h rfl
  | .fn x a, n, h, hl => by
    have hl : n + (a.sz + 1) ≤ us.length := hl
    have za := a.sz1
    have h : (sgN us n (a.sz + 1)).map bare0 = _ := h
    rw [at_fl1 (i := n + (a.sz + 1) - 1) (by omega) (by omega)] at h
    obtain ⟨ia, h⟩ := List.append_inj h (by rw [sgN_len (by omega), a.fl_len])
    injection h with h _
    obtain ⟨p, h⟩ := of_bare h rfl
    exact ⟨n + a.sz - 1, p, by show n + (a.sz + 1) - 1 = n + a.sz - 1 + 1; omega, h, a.of_fl _ ia (by omega)⟩
  | .app a b, n, h, hl => by
    have hl : n + (a.sz + b.sz + 1) ≤ us.length := hl
    have za := a.sz1
    have zb := b.sz1
    have h : (sgN us n (a.sz + b.sz + 1)).map bare0 = _ := h
    rw [at_fl1 (i := n + (a.sz + b.sz + 1) - 1) (by omega) (by omega), sgN_add, List.map_append, List.append_assoc] at h
    obtain ⟨ia, h⟩ := List.append_inj h (by rw [sgN_len (by omega), a.fl_len])
    obtain ⟨ib, h⟩ := List.append_inj h (by rw [sgN_len (by omega), b.fl_len])
    injection h with h _
    obtain ⟨p, h⟩ := of_bare h rfl
    exact ⟨n + a.sz - 1, n + a.sz + b.sz - 1, p, by show n + (a.sz + b.sz + 1) - 1 = n + a.sz + b.sz - 1 + 1; omega, by omega, h, a.of_fl _ ia (by omega), b.of_fl _ ib (by omega)⟩
  | .lt x a b, n, h, hl => by
    have hl : n + (a.sz + b.sz + 1) ≤ us.length := hl
    have za := a.sz1
    have zb := b.sz1
    have h : (sgN us n (a.sz + b.sz + 1)).map bare0 = _ := h
    rw [at_fl1 (i := n + (a.sz + b.sz + 1) - 1) (by omega) (by omega), sgN_add, List.map_append, List.append_assoc] at h
    obtain ⟨ia, h⟩ := List.append_inj h (by rw [sgN_len (by omega), a.fl_len])
    obtain ⟨ib, h⟩ := List.append_inj h (by rw [sgN_len (by omega), b.fl_len])
    injection h with h _
    obtain ⟨p, h⟩ := of_bare h rfl
    exact ⟨n + a.sz - 1, n + a.sz + b.sz - 1, p, by show n + (a.sz + b.sz + 1) - 1 = n + a.sz + b.sz - 1 + 1; omega, by omega, h, a.of_fl _ ia (by omega), b.of_fl _ ib (by omega)⟩
  | .rc x y a b, n, h, hl => by
    have hl : n + (a.sz + b.sz + 1) ≤ us.length := hl
    have za := a.sz1
    have zb := b.sz1
    have h : (sgN us n (a.sz + b.sz + 1)).map bare0 = _ := h
    rw [at_fl1 (i := n + (a.sz + b.sz + 1) - 1) (by omega) (by omega), sgN_add, List.map_append, List.append_assoc] at h
    obtain ⟨ia, h⟩ := List.append_inj h (by rw [sgN_len (by omega), a.fl_len])
    obtain ⟨ib, h⟩ := List.append_inj h (by rw [sgN_len (by omega), b.fl_len])
    injection h with h _
    obtain ⟨p, h⟩ := of_bare h rfl
    exact ⟨n + a.sz - 1, n + a.sz + b.sz - 1, p, by show n + (a.sz + b.sz + 1) - 1 = n + a.sz + b.sz - 1 + 1; omega, by omega, h, a.of_fl _ ia (by omega), b.of_fl _ ib (by omega)⟩
  | .cd a b c, n, h, hl => by
    have hl : n + (a.sz + b.sz + c.sz + 1) ≤ us.length := hl
    have za := a.sz1
    have zb := b.sz1
    have zc := c.sz1
    have h : (sgN us n (a.sz + b.sz + c.sz + 1)).map bare0 = _ := h
    rw [at_fl1 (i := n + (a.sz + b.sz + c.sz + 1) - 1) (by omega) (by omega), sgN_add, sgN_add, List.map_append, List.map_append, List.append_assoc, List.append_assoc, ← Nat.add_assoc] at h
    obtain ⟨ia, h⟩ := List.append_inj h (by rw [sgN_len (by omega), a.fl_len])
    obtain ⟨ib, h⟩ := List.append_inj h (by rw [sgN_len (by omega), b.fl_len])
    obtain ⟨ic, h⟩ := List.append_inj h (by rw [sgN_len (by omega), c.fl_len])
    injection h with h _
    obtain ⟨p, h⟩ := of_bare h rfl
    exact ⟨n + a.sz - 1, n + a.sz + b.sz - 1, n + a.sz + b.sz + c.sz - 1, p, by show n + (a.sz + b.sz + c.sz + 1) - 1 = n + a.sz + b.sz + c.sz - 1 + 1; omega, by omega, by omega, h, a.of_fl _ ia (by omega), b.of_fl _ ib (by omega), c.of_fl _ ic (by omega)⟩
  | .pr q a b, n, h, hl => by
    have hl : n + (a.sz + b.sz + 1) ≤ us.length := hl
    have za := a.sz1
    have zb := b.sz1
    have h : (sgN us n (a.sz + b.sz + 1)).map bare0 = _ := h
    rw [at_fl1 (i := n + (a.sz + b.sz + 1) - 1) (by omega) (by omega), sgN_add, List.map_append, List.append_assoc] at h
    obtain ⟨ia, h⟩ := List.append_inj h (by rw [sgN_len (by omega), a.fl_len])
    obtain ⟨ib, h⟩ := List.append_inj h (by rw [sgN_len (by omega), b.fl_len])
    injection h with h _
    obtain ⟨p, h⟩ := of_bare h rfl
    exact ⟨n + a.sz - 1, n + a.sz + b.sz - 1, p, by show n + (a.sz + b.sz + 1) - 1 = n + a.sz + b.sz - 1 + 1; omega, by omega, h, a.of_fl _ ia (by omega), b.of_fl _ ib (by omega)⟩
  | .ac nm a, n, h, hl => by
    have hl : n + (a.sz + 1) ≤ us.length := hl
    have za := a.sz1
    have h : (sgN us n (a.sz + 1)).map bare0 = _ := h
    rw [at_fl1 (i := n + (a.sz + 1) - 1) (by omega) (by omega)] at h
    obtain ⟨ia, h⟩ := List.append_inj h (by rw [sgN_len (by omega), a.fl_len])
    injection h with h _
    obtain ⟨p, h⟩ := of_bare h rfl
    exact ⟨n + a.sz - 1, p, by show n + (a.sz + 1) - 1 = n + a.sz - 1 + 1; omega, h, a.of_fl _ ia (by omega)⟩
  | .hn nm x y z a b c, n, h, hl => by
    have hl : n + (a.sz + b.sz + c.sz + 1) ≤ us.length := hl
    have za := a.sz1
    have zb := b.sz1
    have zc := c.sz1
    have h : (sgN us n (a.sz + b.sz + c.sz + 1)).map bare0 = _ := h
    rw [at_fl1 (i := n + (a.sz + b.sz + c.sz + 1) - 1) (by omega) (by omega), sgN_add, sgN_add, List.map_append, List.map_append, List.append_assoc, List.append_assoc, ← Nat.add_assoc] at h
    obtain ⟨ia, h⟩ := List.append_inj h (by rw [sgN_len (by omega), a.fl_len])
    obtain ⟨ib, h⟩ := List.append_inj h (by rw [sgN_len (by omega), b.fl_len])
    obtain ⟨ic, h⟩ := List.append_inj h (by rw [sgN_len (by omega), c.fl_len])
    injection h with h _
    obtain ⟨p, h⟩ := of_bare h rfl
    exact ⟨n + a.sz - 1, n + a.sz + b.sz - 1, n + a.sz + b.sz + c.sz - 1, p, by show n + (a.sz + b.sz + c.sz + 1) - 1 = n + a.sz + b.sz + c.sz - 1 + 1; omega, by omega, by omega, h, a.of_fl _ ia (by omega), b.of_fl _ ib (by omega), c.of_fl _ ic (by omega)⟩
/-- the row of a part that was read. -/
theorem mayT_of {os : List Or} {ns : List Nd} {T : PT} (hT : T.ok) (ho : ∀ o ∈ os, orOk o) (h4 : os.length ≤ 4) (hs : T.sz ≤ 512) (hf : ns.map bare0 = T.fl 0) : MayT os ns T := by
  have hl : ns.length = T.sz := by have := congrArg List.length hf; rwa [List.length_map, T.fl_len] at this
  have h1 := T.sz1
  refine ⟨?_, hT, hl.symm, by omega, by omega, h4, ho⟩
  have := T.of_fl (us := ns) 0 (by unfold sgN; rw [← hl, List.drop_zero, List.take_length]; exact hf) (by omega)
  rw [Nat.zero_add, ← hl] at this
  exact this
theorem MayT.bare {os : List Or} {ts us : List Nd} {T : PT} (h : MayT os ts T) (e : ts.map bare0 = us.map bare0) : MayT os us T := by
  have hl : us.length = ts.length := by have := congrArg List.length e; simpa using this.symm
  exact ⟨by rw [hl]; exact h.at_.bare e, h.ok, by rw [hl]; exact h.sz, by rw [hl]; exact h.l1, by rw [hl]; exact h.l2, h.o4, h.os⟩
theorem ba_x {a b : ByteArray} (h : a.data.toList = b.data.toList) : a = b := by
  obtain ⟨⟨l⟩⟩ := a; obtain ⟨⟨m⟩⟩ := b
  have h : l = m := h
  rw [h]
theorem PT.At.k {ts : List Nd} {T : PT} {i : Nat} (h : T.At ts i) : (T.atm = true ∧ ((ts.getD i nd0).k = 0 ∨ (ts.getD i nd0).k = 1 ∨ (ts.getD i nd0).k = 2 ∨ (ts.getD i nd0).k = 10)) ∨ (T.atm = false ∧ ((ts.getD i nd0).k = 3 ∨ (ts.getD i nd0).k = 4 ∨ (ts.getD i nd0).k = 5 ∨ (ts.getD i nd0).k = 6 ∨ (ts.getD i nd0).k = 7 ∨ (ts.getD i nd0).k = 8 ∨ (ts.getD i nd0).k = 9)) := by
  cases T with
  | var nm => obtain ⟨p, h⟩ := h; rw [h]; exact .inl ⟨rfl, .inl rfl⟩
  | int n => obtain ⟨p, h⟩ := h; rw [h]; exact .inl ⟨rfl, .inr (.inl rfl)⟩
  | bol n => obtain ⟨p, h⟩ := h; rw [h]; exact .inl ⟨rfl, .inr (.inr (.inl rfl))⟩
  | fn x a => obtain ⟨j, p, _, h, _⟩ := h; rw [h]; exact .inr ⟨rfl, .inl rfl⟩
  | app a b => obtain ⟨j, k, p, _, _, h, _⟩ := h; rw [h]; exact .inr ⟨rfl, .inr (.inl rfl)⟩
  | lt x a b => obtain ⟨j, k, p, _, _, h, _⟩ := h; rw [h]; exact .inr ⟨rfl, .inr (.inr (.inl rfl))⟩
  | rc x y a b => obtain ⟨j, k, p, _, _, h, _⟩ := h; rw [h]; exact .inr ⟨rfl, .inr (.inr (.inr (.inl rfl)))⟩
  | cd a b c => obtain ⟨j, k, m, p, _, _, _, h, _⟩ := h; rw [h]; exact .inr ⟨rfl, .inr (.inr (.inr (.inr (.inl rfl))))⟩
  | pr n a b => obtain ⟨j, k, p, _, _, h, _⟩ := h; rw [h]; exact .inr ⟨rfl, .inr (.inr (.inr (.inr (.inr (.inl rfl)))))⟩
  | ac nm a => obtain ⟨j, p, _, h, _⟩ := h; rw [h]; exact .inr ⟨rfl, .inr (.inr (.inr (.inr (.inr (.inr rfl)))))⟩
  | hn nm x y z a b c => obtain ⟨j, k, m, p, _, _, _, h, _⟩ := h; rw [h]; exact .inl ⟨rfl, .inr (.inr (.inr rfl))⟩
theorem sz_nm {x : ByteArray} (h : nmB x.data.toList = true) : x.size ≤ 16 := by have := nm_len h; rw [Array.length_toList] at this; exact this
theorem sgT_ne (n : Int) : sgT n ≠ [] := by
  unfold sgT
  repeat' split
  all_goals simp
end Go.Proofs.YtidlljookjicpaaGreatDoor
