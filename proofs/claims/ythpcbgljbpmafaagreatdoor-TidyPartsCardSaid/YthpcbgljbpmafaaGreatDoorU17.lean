/- Rows of nodes that a call makes: appended to, copied, lent. -/
import Derived.Test.YthpcbgljbpmafaaGreatDoorU5
import Derived.Test.YthpcbgljbpmafaaGreatDoorU9
import Derived.Test.YthpcbgljbpmafaaGreatDoorU13
import Derived.Test.YthpcbgljbpmafaaGreatDoorU16
import Derived.Laws.AppendOwn
import Derived.Laws.OwnMore
import Derived.Deep.RegionHeld3
import Derived.Test.YthpcbgljbpmafaaGreatDoorChecked
import Derived.OpenShut
import Derived.ShutString
import Derived.ChangeOld
import Derived.Below
import Derived.SizedLaws
import Derived.Carry
import Derived.Lib.SmallJoins
import Derived.WideShapes
set_option maxRecDepth 100000
set_option maxHeartbeats 8000000
namespace Go.Proofs.YthpcbgljbpmafaaGreatDoor
open Go.RowKit
set_option linter.unusedVariables false
set_option linter.unusedSimpArgs false
theorem infoNd : (Tryz.prog.info? 45).map (fun i => (i.zero, i.size, i.bytes)) = some (some (.agg #[.int .i64 0, .int .i64 0, .int .i64 0, .int .i64 0, .int .i64 0, .string ByteArray.empty, .string ByteArray.empty, .string ByteArray.empty, .string ByteArray.empty, .int .i64 0]), 10, 112) := by kernel_rfl
def ndL1 (t : Nd) : List Value := [.int .i64 t.k, .int .i64 t.a, .int .i64 t.b, .int .i64 t.c, .int .i64 t.n, .string t.nm, .string t.x, .string t.y, .string t.z, .int .i64 t.p]
def ndL (l : List Nd) : List Value := l.flatMap ndL1
theorem ndL_len (l : List Nd) : (ndL l).length = l.length * 10 := by
 induction l with
 | nil => rfl
 | cons t l ih => simp only [ndL, List.flatMap_cons, List.length_append, List.length_cons] at *; rw [ih]; simp [ndL1]; omega
theorem ndL_app (l m : List Nd) : ndL (l ++ m) = ndL l ++ ndL m := by simp [ndL]
theorem ndL_get : ∀ (l : List Nd) (i k : Nat), k < 10 → (ndL l)[i * 10 + k]? = (l[i]?).bind fun t => (ndL1 t)[k]?
 | [], i, k, _ => by simp [ndL]
 | t :: l, 0, k, hk => by
  simp only [ndL, List.flatMap_cons, Nat.zero_mul, Nat.zero_add]
  rw [List.getElem?_append_left (by simp [ndL1]; omega)]; rfl
 | t :: l, i + 1, k, hk => by
  have h := ndL_get l i k hk
  simp only [ndL, List.flatMap_cons] at *
  rw [List.getElem?_append_right (by simp [ndL1]; omega), show (i + 1) * 10 + k - (ndL1 t).length = i * 10 + k by simp [ndL1]; omega, h]
  simp
theorem ndL_one (l : List Nd) : ∀ u ∈ ndL l, u.oneCell' = true := by
 intro u hu
 unfold ndL at hu
 rw [List.mem_flatMap] at hu
 obtain ⟨t, _, ht⟩ := hu
 unfold ndL1 at ht
 simp only [List.mem_cons, List.not_mem_nil, or_false] at ht
 rcases ht with rfl | rfl | rfl | rfl | rfl | rfl | rfl | rfl | rfl | rfl <;> rfl
theorem ndSl_of {w : World} {g off : Nat} {l : List Nd} (h : ∀ j u, (ndL l)[j]? = some u → w.cell? ⟨g, off + j, none⟩ = some u) : NdSl w g off l := by
 intro i hi
 have hg : l[i]? = some (l.getD i nd0) := by rw [List.getD_eq_getElem?_getD, List.getElem?_eq_getElem hi]; rfl
 have k0 := h (i * 10 + 0) (.int .i64 (l.getD i nd0).k) (by rw [ndL_get l i 0 (by omega), hg]; rfl)
 have k1 := h (i * 10 + 1) (.int .i64 (l.getD i nd0).a) (by rw [ndL_get l i 1 (by omega), hg]; rfl)
 have k2 := h (i * 10 + 2) (.int .i64 (l.getD i nd0).b) (by rw [ndL_get l i 2 (by omega), hg]; rfl)
 have k3 := h (i * 10 + 3) (.int .i64 (l.getD i nd0).c) (by rw [ndL_get l i 3 (by omega), hg]; rfl)
 have k4 := h (i * 10 + 4) (.int .i64 (l.getD i nd0).n) (by rw [ndL_get l i 4 (by omega), hg]; rfl)
 have k5 := h (i * 10 + 5) (.string (l.getD i nd0).nm) (by rw [ndL_get l i 5 (by omega), hg]; rfl)
 have k6 := h (i * 10 + 6) (.string (l.getD i nd0).x) (by rw [ndL_get l i 6 (by omega), hg]; rfl)
 have k7 := h (i * 10 + 7) (.string (l.getD i nd0).y) (by rw [ndL_get l i 7 (by omega), hg]; rfl)
 have k8 := h (i * 10 + 8) (.string (l.getD i nd0).z) (by rw [ndL_get l i 8 (by omega), hg]; rfl)
 have k9 := h (i * 10 + 9) (.int .i64 (l.getD i nd0).p) (by rw [ndL_get l i 9 (by omega), hg]; rfl)
 exact ⟨k0, k1, k2, k3, k4, k5, k6, k7, k8, k9⟩
theorem ndSl_get {w : World} {g off : Nat} {l : List Nd} (h : NdSl w g off l) : ∀ j u, (ndL l)[j]? = some u → w.cell? ⟨g, off + j, none⟩ = some u := by
 intro j u hj
 have hjj : j = j / 10 * 10 + j % 10 := by omega
 have hm : j % 10 < 10 := by omega
 generalize j / 10 = i at hjj
 generalize j % 10 = k at hjj hm
 subst hjj
 rw [ndL_get l i k hm] at hj
 cases hg : l[i]? with
 | none => rw [hg] at hj; cases hj
 | some t =>
  rw [hg] at hj
  have hi : i < l.length := (List.getElem?_eq_some_iff.1 hg).1
  have hT := h i hi
  have ht : l.getD i nd0 = t := by rw [List.getD_eq_getElem?_getD, hg]; rfl
  rw [ht] at hT
  obtain ⟨e0, e1, e2, e3, e4, e5, e6, e7, e8, e9⟩ := hT
  rw [show off + (i * 10 + k) = off + i * 10 + k by omega]
  match k, hm with
  | 0, _ => simp [ndL1] at hj; subst hj; exact e0
  | 1, _ => simp [ndL1] at hj; subst hj; exact e1
  | 2, _ => simp [ndL1] at hj; subst hj; exact e2
  | 3, _ => simp [ndL1] at hj; subst hj; exact e3
  | 4, _ => simp [ndL1] at hj; subst hj; exact e4
  | 5, _ => simp [ndL1] at hj; subst hj; exact e5
  | 6, _ => simp [ndL1] at hj; subst hj; exact e6
  | 7, _ => simp [ndL1] at hj; subst hj; exact e7
  | 8, _ => simp [ndL1] at hj; subst hj; exact e8
  | 9, _ => simp [ndL1] at hj; subst hj; exact e9
def OwnN (B : Nat) (w : World) (v : Value) (l : List Nd) : Prop := w.ownsRow B 45 10 v l.length (ndL l)
theorem OwnN.nil (B : Nat) (w : World) : OwnN B w (.slice none 0 0) [] := ⟨rfl, .inl ⟨rfl, rfl⟩⟩
theorem OwnN.below {B : Nat} {w w1 : World} {v : Value} {l : List Nd} (h : OwnN B w v l) (hb : Below w.heap.size w w1) : OwnN B w1 v l := owns_below h hb
theorem OwnN.fresh (w : World) : OwnN w.heap.size (w.alloc (.cells #[] 45)) (.slice (some ⟨w.heap.size, 0, none⟩) 0 0) [] :=
 ⟨rfl, .inr ⟨w.heap.size, 0, #[], rfl, Nat.le_refl _, by show (w.heap.push _)[w.heap.size]? = _; simp, Nat.le_refl _, by decide, rfl, rfl⟩⟩
theorem OwnN.cases {B : Nat} {w : World} {v : Value} {l : List Nd} (h : OwnN B w v l) : (v = .slice none 0 0 ∧ l = []) ∨ ∃ g c, v = .slice (some ⟨g, 0, none⟩) l.length c ∧ B ≤ g ∧ g < w.heap.size ∧ l.length ≤ c ∧ NdSl w g 0 l ∧ ∀ o, w.frozen? ⟨g, o, none⟩ = false := by
 have hh := h
 rcases h.2 with ⟨rfl, h0⟩ | ⟨g, cap, cur, rfl, hb, hg, hc, hm, hsz, htk⟩
 ·exact .inl ⟨rfl, List.eq_nil_of_length_eq_zero h0⟩
 ·refine .inr ⟨g, cap, rfl, hb, (Array.getElem?_eq_some_iff.1 hg).1, hc, ndSl_of fun j u hj => ?_, fun o => World.ownsRow.frozenAt hh o⟩
  have := World.ownsRow.cells (show w.ownsRow B 45 10 (.slice (some ⟨g, 0, none⟩) l.length cap) l.length (ndL l) from hh) rfl j u hj
  by_cases hj0 : j = 0
  ·subst hj0; simpa [Addr.add] using this
  ·simpa [Addr.add, hj0] using this
theorem OwnN.arg {B : Nat} {w : World} {a : Option Addr} {n c : Nat} {l : List Nd} (h : OwnN B w (.slice a n c) l) : NArg w a n l := by
 rcases h.cases with ⟨h1, rfl⟩ | ⟨g, c, h1, _, h3, _, h5, _⟩
 ·injection h1 with _ h1 _; subst h1; exact ⟨rfl, .inl rfl⟩
 ·injection h1 with h0 h1 _; subst h0; subst h1; exact ⟨rfl, .inr ⟨g, 0, rfl, h5, h3⟩⟩
theorem op_nd {ops : Array Oper} {rest : List Oper} {o : Oper} {a : Act} {Q : Exit → Act → World → Prop} (hgd : o.guard = none) (s x : Operand) (W : World) (B : Nat) (hB : B ≤ W.heap.size) (ov : Value) (l ys : List Nd) (arr : Array Value)
  (ho : o.op = .call { callee := .builtin .append, args := #[s, x], argTypes := #[23, 23] })
  (hs : a.eval s = ov) (m : Nat) (hm : m = ys.length) (hx : a.eval x = .slice (some ⟨W.heap.size, 0, none⟩) m m) (harr : arr.toList = ndL ys) (hown : OwnN B W ov l) (hlen : (l.length + ys.length) * 112 ≤ 140737488355328)
  (h : ∀ v' w', OwnN B w' v' (l ++ ys) → Below B W w' → (v' = .slice none 0 0 → ys = []) → wpList Tryz.prog ops Q rest (a.put o.dst v') w') :
  wpList Tryz.prog ops Q (o :: rest) a (W.alloc (.cells arr 45)) := by
 subst hm
 obtain ⟨i0, hi, hz0, hz1, hz2⟩ := info_parts infoNd
 refine wpList_append_own _ hgd s x 23 ho B 45 i0 (.agg #[.int .i64 0, .int .i64 0, .int .i64 0, .int .i64 0, .int .i64 0, .string ByteArray.empty, .string ByteArray.empty, .string ByteArray.empty, .string ByteArray.empty, .int .i64 0]) 10 112 Tryz.underlying23 hi hz0 hz1 hz2 rfl (by decide) ov l.length (ndL l) hs (World.ownsRow.alloc hown _) ⟨W.heap.size, 0, none⟩ ys.length ys.length (ndL ys) hx (ndL_len ys) ?_ (ndL_one ys) (by unfold maxLen; omega) (by omega) (by simp; omega) ?_
 ·intro j u hj
  have e : (⟨W.heap.size, 0, none⟩ : Addr).add j = ⟨W.heap.size, j, none⟩ := by simp [Addr.add]; try omega
  rw [e, World.cell?_alloc_at _ _ _ _ rfl, ← hj, ← harr, Array.getElem?_toList]
 ·intro v' w' hown' hgr hnil
  refine h v' w' (by unfold OwnN; rw [ndL_app, List.length_append]; exact hown') ?_ (fun e => List.eq_nil_of_length_eq_zero (hnil.1 e).2)
  have hsz := hgr.size
  simp at hsz
  refine ⟨hgr.os, hgr.tape, hgr.output, by omega, fun k hk => ?_⟩
  rw [hgr.block k (by simp; omega) ?_]
  ·exact Below.heap_alloc W _ k (by omega)
  ·intro e
   rcases hown.2 with ⟨rfl, _⟩ | ⟨g, cap, cur, rfl, hg, _⟩
   ·simp [Value.ownBlock] at e
   ·simp [Value.ownBlock] at e; omega
theorem CopyNodes_nil (a : Option Addr) (c : Nat) (w : World) :
  Calls Tryz.prog 17 #[.slice a 0 c] w fun e w' => ∃ v, e = .returned v ∧ OwnN w.heap.size w' v [] ∧ Below w.heap.size w w' := by
 obtain ⟨i0, hi, hz0, hz1, hz2⟩ := info_parts infoNd
 have hown0 := Lib.hid (OwnN.fresh w)
 cases a with
 | some ad =>
  go_enter Tryz.func17, Tryz.ntmps17
  go_wp2_with (at_builtin; refine wpList_append_own _ rfl (.tmp 3) (.tmp 4) 23 rfl w.heap.size 45 i0 (.agg #[.int .i64 0, .int .i64 0, .int .i64 0, .int .i64 0, .int .i64 0, .string ByteArray.empty, .string ByteArray.empty, .string ByteArray.empty, .string ByteArray.empty, .int .i64 0]) 10 112 Tryz.underlying23 hi hz0 hz1 hz2 rfl (by decide) _ 0 [] rfl hown0.out ad 0 c [] rfl rfl (by intro j u hj; simp at hj) (by intro u hu; simp at hu) (by unfold maxLen; omega) (by omega) (by simp) ?_)
  intro v' w1 hown1 hgr _
  have hbel : Below w.heap.size w w1 := ((Below.refl _ _).alloc (Nat.le_refl _) _).grown hgr (by simp) (by intro k hk; simp [Value.ownBlock] at hk; omega)
  have hown1' := Lib.hid hown1; clear hown1 hgr
  go_wp2_with fail
  go_ret
  exact ⟨v', rfl, hown1'.out, hbel⟩
 | none =>
 go_enter Tryz.func17, Tryz.ntmps17
 go_wp2_with fail
 go_ret
 exact ⟨_, rfl, hown0.out, by (repeat' (first | (with_reducible first | exact bR _ _ | assumption | apply bS | apply bA | apply bD | apply bN | exact bL _) | (simp; done) | (simp; omega) | omega | exact bL _))⟩
theorem CopyNodes_sl (g off cp : Nat) (l : List Nd) (w : World) (h : Hid (NdSl w g off l)) (hg : g < w.heap.size) (hl : l.length * 112 ≤ 140737488351232) :
  Calls Tryz.prog 17 #[.slice (some ⟨g, off, none⟩) l.length cp] w fun e w' => ∃ v, e = .returned v ∧ OwnN w.heap.size w' v l ∧ Below w.heap.size w w' := by
 obtain ⟨i0, hi, hz0, hz1, hz2⟩ := info_parts infoNd
 have hown0' := Lib.hid (OwnN.fresh w)
 have hnews : Hid (∀ j u, (ndL l)[j]? = some u → (w.alloc (.cells #[] 45)).cell? ((⟨g, off, none⟩ : Addr).add j) = some u) := Lib.hid (by
  intro j u hj
  have e : (⟨g, off, none⟩ : Addr).add j = ⟨g, off + j, none⟩ := by simp [Addr.add]; try omega
  rw [e, World.cell?_alloc_past _ _ _ hg]
  exact ndSl_get h.out j u hj)
 go_enter Tryz.func17, Tryz.ntmps17
 go_wp2_with (at_builtin; refine wpList_append_own _ rfl (.tmp 3) (.tmp 4) 23 rfl w.heap.size 45 i0 (.agg #[.int .i64 0, .int .i64 0, .int .i64 0, .int .i64 0, .int .i64 0, .string ByteArray.empty, .string ByteArray.empty, .string ByteArray.empty, .string ByteArray.empty, .int .i64 0]) 10 112 Tryz.underlying23 hi hz0 hz1 hz2 rfl (by decide) _ 0 [] rfl hown0'.out ⟨g, off, none⟩ l.length cp (ndL l) rfl (ndL_len l) hnews.out (ndL_one l) (by unfold maxLen; omega) (by omega) (by simp) ?_)
 intro v' w1 hown1 hgr _
 have hbel : Below w.heap.size w w1 := ((Below.refl _ _).alloc (Nat.le_refl _) _).grown hgr (by simp) (by intro k hk; simp [Value.ownBlock] at hk; omega)
 (try rw [Nat.zero_add, List.nil_append] at hown1)
 have hown1' := Lib.hid hown1; clear hown1 hgr
 go_wp2_with fail
 go_ret
 exact ⟨v', rfl, hown1'.out, hbel⟩
theorem CopyNodes_any (a : Option Addr) (n c : Nat) (l : List Nd) (w : World) (h : Hid (NArg w a n l)) (hl : n * 112 ≤ 140737488351232) :
  Calls Tryz.prog 17 #[.slice a n c] w fun e w' => ∃ v, e = .returned v ∧ OwnN w.heap.size w' v l ∧ Below w.heap.size w w' := by
 obtain ⟨rfl, rfl | ⟨b, off, rfl, h1, h2⟩⟩ := h.out
 ·exact CopyNodes_nil a c w
 ·exact CopyNodes_sl b off c l w (Lib.hid h1) h2 hl
theorem nd_to (a : Option Addr) (m c n : Nat) (h : n ≤ c) (W : World) : (Instr.slice 23 (.slice a m c) none (some (.int .i64 n)) none).run Tryz.prog W = .ok (.slice a n c) W := by
 have hs : ∀ W : World, (sizeOf 45).run Tryz.prog W = .ok 10 W := fun _ => by kernel_rfl
 have he : Tryz.prog.elem 23 = 45 := by kernel_rfl
 rw [run_slice_h W 23 a m c (by rw [he]; exact Tryz.underlying23) .i64 (n : Int) (by omega) (by omega), he, hs]
 cases a <;> simp [Result.andThen, sliced, Addr.add]
def ndMk : Nd := ⟨0, 0, 0, 0, 0, ⟨#[]⟩, ⟨#[]⟩, ⟨#[]⟩, ⟨#[]⟩, 77777⟩
def OwnN.Lent (B : Nat) (w : World) (g n c : Nat) (l : List Nd) : Prop := n = l.length ∧ n + 2 ≤ c ∧ B ≤ g ∧ OwnN B w (.slice (some ⟨g, 0, none⟩) (n + 2) c) (l ++ [ndMk, ndMk])
def OwnN.LentPost (l : List Nd) (w : World) (n : Nat) (e : Ending) (w' : World) : Prop := ∃ g c, e = .returned (.slice (some ⟨g, 0, none⟩) n c) ∧ OwnN.Lent w.heap.size w' g n c l ∧ Below w.heap.size w w'
theorem LendNodes_any (a : Option Addr) (n c : Nat) (l : List Nd) (w : World) (h : Hid (NArg w a n l)) (hl : n * 112 ≤ 140737488351232) :
  Calls Tryz.prog 20 #[.slice a n c] w (OwnN.LentPost l w n) := by
 have hn := Lib.hid h.out.1
 have kC := Lib.hid (CopyNodes_any a n c l w h (by omega))
 go_enter Tryz.func20, Tryz.ntmps20
 go_wp2_with fail
 refine kC.out.mono ?_
 rintro e w1 ⟨v1, rfl, ho1, hb1⟩
 have ho1' := Lib.hid ho1
 have hB1 := Lib.hid hb1
 clear ho1 hb1
 go_wp2_with (at_builtin; refine op_nd rfl (.tmp 5) (.tmp 8) w1 w.heap.size hB1.out.size _ l [ndMk, ndMk] _ rfl rfl 2 rfl rfl rfl ho1'.out (by have := hn.out; simp; omega) ?_; intro v' w2 hown2 hb2 hnn)
 have hbel := Lib.hid (hB1.out.trans hb2)
 obtain ⟨g, c2, rfl, hg1, hg2, hg3, _, _⟩ : ∃ g c2, v' = .slice (some ⟨g, 0, none⟩) (l ++ [ndMk, ndMk]).length c2 ∧ w.heap.size ≤ g ∧ g < w2.heap.size ∧ (l ++ [ndMk, ndMk]).length ≤ c2 ∧ NdSl w2 g 0 (l ++ [ndMk, ndMk]) ∧ ∀ o, w2.frozen? ⟨g, o, none⟩ = false := by
  rcases hown2.cases with ⟨h1, _⟩ | h1
  ·exact absurd (hnn h1) (by simp)
  ·exact h1
 have hlen : (l ++ [ndMk, ndMk]).length = n + 2 := by rw [List.length_append, hn.out]; rfl
 rw [hlen] at hown2 hg3 ⊢
 have hown2' := Lib.hid hown2
 clear hown2 hb2 hnn hlen
 have hnc := fun (W : World) => nd_to (some ⟨g, 0, none⟩) (n + 2) c2 n (by omega) W
 go_wp2_with fail
 rw [hnc]
 clear hnc
 go_wp2_with fail
 go_ret
 exact ⟨g, c2, rfl, ⟨hn.out, hg3, hg1, hown2'.out⟩, hbel.out⟩
theorem OwnN.Lent.arg {B : Nat} {w : World} {g n c : Nat} {l : List Nd} (h : OwnN.Lent B w g n c l) : NArg w (some ⟨g, 0, none⟩) n l := by
 obtain ⟨h1, h2, h3, h4⟩ := h
 refine ⟨h1, .inr ⟨g, 0, rfl, fun i hi => ?_, ?_⟩⟩
 ·rcases h4.cases with ⟨h5, _⟩ | ⟨g', c', h5, _, _, _, h6, _⟩
  ·cases h5
  ·injection h5 with h5 _ _; injection h5 with h5; injection h5 with h5 _ _; subst h5
   have := h6 i (by simp; omega)
   rwa [show (l ++ [ndMk, ndMk]).getD i nd0 = l.getD i nd0 from by simp [List.getElem?_append_left hi]] at this
 ·rcases h4.cases with ⟨h5, _⟩ | ⟨g', c', h5, _, h7, _, h6, _⟩
  ·cases h5
  ·injection h5 with h5 _ _; injection h5 with h5; injection h5 with h5 _ _; subst h5; exact h7
theorem OwnN.Lent.below {B : Nat} {w w' : World} {g n c : Nat} {l : List Nd} (h : OwnN.Lent B w g n c l) (hb : Below w.heap.size w w') : OwnN.Lent B w' g n c l := ⟨h.1, h.2.1, h.2.2.1, h.2.2.2.below hb⟩
open Go.RowKit
theorem run_appN2 {W : World} (B : Nat) (hB : B ≤ W.heap.size) (ty : TypeId) (v : Value) (l : List Nd) (hown : OwnN B W v l) (ad : Addr) (m c : Nat) (ys : List Nd) (hm : m = ys.length) (hnews : ∀ j u, (ndL ys)[j]? = some u → W.cell? (ad.add j) = some u) (hlen : l.length + ys.length ≤ 1000000) :
  ∃ v' w', (Builtin.append_ #[23, 23] ty #[v, .slice (some ad) m c]).run Tryz.prog W = .ok v' w' ∧ OwnN B w' v' (l ++ ys) ∧ Bar (fun k => v.ownBlock = some k) W w' ∧ (∀ g, v'.ownBlock = some g → v.ownBlock = some g ∨ W.heap.size ≤ g) := by
 subst hm
 obtain ⟨i0, hi, hz0, hz1, hz2⟩ := info_parts infoNd
 obtain ⟨v', w', hr, h1, h2, h3⟩ := run_append_own (P := Tryz.prog) (w := W) B 23 ty 45 i0 (.agg #[.int .i64 0, .int .i64 0, .int .i64 0, .int .i64 0, .int .i64 0, .string ByteArray.empty, .string ByteArray.empty, .string ByteArray.empty, .string ByteArray.empty, .int .i64 0]) 10 112 Tryz.underlying23 hi hz0 hz1 hz2 rfl (by decide) v l.length (ndL l) hown ad ys.length c (ndL ys) (ndL_len ys) hnews (ndL_one ys) (by unfold maxLen; omega) (by omega) hB
 have h1' : OwnN B w' v' (l ++ ys) := by unfold OwnN; rw [ndL_app, List.length_append]; exact h1
 have hbar : Bar (fun k => v.ownBlock = some k) W w' := ⟨h2.os, h2.tape, h2.output, h2.size, fun k hk hn => h2.block k hk (fun e => hn e.symm)⟩
 refine ⟨v', w', hr, h1', hbar, ?_⟩
 rcases hown.2 with ⟨e1, e0⟩ | ⟨g, cap, cur, e1, hBg, hg, hc, hcm, hcs, htk⟩
 ·have hl0 : l = [] := List.eq_nil_of_length_eq_zero e0
  subst hl0; subst e1
  intro k hk
  by_cases h0 : ys.length = 0
  ·have := h3.2 ⟨rfl, h0⟩; rw [this] at hk; cases hk
  ·have hr2 := run_append_nil (P := Tryz.prog) W 23 ty 45 i0 (.agg #[.int .i64 0, .int .i64 0, .int .i64 0, .int .i64 0, .int .i64 0, .string ByteArray.empty, .string ByteArray.empty, .string ByteArray.empty, .string ByteArray.empty, .int .i64 0]) Tryz.underlying23 hi hz0 ad ys.length c (ndL ys) (by rw [ndL_len, hz1]) hnews (by omega) (by omega) (by rw [hz2]; omega)
   rw [hr] at hr2
   injection hr2 with e1 e2
   subst e1
   have hk : W.heap.size = k := Option.some.inj hk
   exact .inr (by omega)
 ·subst e1
  by_cases hroom : l.length + ys.length ≤ cap
  ·have hfit : l.length * i0.size + (ndL ys).length ≤ cur.size := by
    rw [hz1, hcs, ndL_len]
    have := Nat.mul_le_mul_right 10 hroom
    rw [Nat.add_mul] at this; omega
   have hr2 := run_append_room (P := Tryz.prog) W 23 ty 45 i0 Tryz.underlying23 hi g l.length cap cur hg ad ys.length c (ndL ys) (by rw [ndL_len, hz1]) hnews (ndL_one ys) hroom hfit
   rw [hr] at hr2
   injection hr2 with e1 e2
   intro k hk
   exact .inl (by rw [e1] at hk; exact hk)
  ·have hr2 := run_append_grow (P := Tryz.prog) W 23 ty 45 i0 (.agg #[.int .i64 0, .int .i64 0, .int .i64 0, .int .i64 0, .int .i64 0, .string ByteArray.empty, .string ByteArray.empty, .string ByteArray.empty, .string ByteArray.empty, .int .i64 0]) Tryz.underlying23 hi hz0 ⟨g, 0, none⟩ l.length cap (ndL l) (by rw [ndL_len, hz1]) (fun j u hj => World.ownsRow.cells (show W.ownsRow B 45 10 (.slice (some ⟨g, 0, none⟩) l.length cap) l.length (ndL l) from hown) rfl j u hj) ad ys.length c (ndL ys) (by rw [ndL_len, hz1]) hnews (by omega) (by omega) (by rw [hz2]; exact growslice_fits (by omega) (by omega))
   rw [hr] at hr2
   injection hr2 with e1 e2
   have hob : v'.ownBlock = some W.heap.size := by rw [e1]; rfl
   intro k hk
   exact .inr (by rw [hob] at hk; injection hk with hk; omega)
theorem op_ndr {ops : Array Oper} {rest : List Oper} {o : Oper} {a : Act} {Q : Exit → Act → World → Prop} (hgd : o.guard = none) (s x : Operand) (W : World) (B : Nat) (hB : B ≤ W.heap.size) (ov : Value) (l ys : List Nd) (arr : Array Value)
  (ho : o.op = .call { callee := .builtin .append, args := #[s, x], argTypes := #[23, 23] })
  (hs : a.eval s = ov) (m : Nat) (hm : m = ys.length) (hx : a.eval x = .slice (some ⟨W.heap.size, 0, none⟩) m m) (harr : arr.toList = ndL ys) (hown : OwnN B W ov l) (hlen : l.length + ys.length ≤ 1000000)
  (h : ∀ v' w', OwnN B w' v' (l ++ ys) → Bar (fun k => ov.ownBlock = some k) W w' → (∀ g, v'.ownBlock = some g → ov.ownBlock = some g ∨ W.heap.size ≤ g) → wpList Tryz.prog ops Q rest (a.put o.dst v') w') :
  wpList Tryz.prog ops Q (o :: rest) a (W.alloc (.cells arr 45)) := by
 subst hm
 refine wpList_plain hgd fun K hK => ?_
 obtain ⟨v', w', hr, h1, h2, h3⟩ := run_appN2 (W := W.alloc (.cells arr 45)) B (by simp; omega) o.type ov l (hown.below (below_alc W _)) ⟨W.heap.size, 0, none⟩ ys.length ys.length ys rfl (fun j u hj => by
  have e : (⟨W.heap.size, 0, none⟩ : Addr).add j = ⟨W.heap.size, j, none⟩ := by simp [Addr.add]; try omega
  rw [e, World.cell?_alloc_at _ _ _ _ rfl, ← hj, ← harr, Array.getElem?_toList]) hlen
 unfold Oper.wp execOp
 simp only [ho, resolve, invoke, builtin, Sem.run_bind, Sem.run_pure, Result.andThen_ok, List.map_toArray, List.map_cons, List.map_nil, hs, hx, hr]
 refine hK _ _ (h v' w' h1 ?_ fun g hg => ?_)
 ·have hsz := h2.size
  simp at hsz
  exact ⟨h2.os, h2.tape, h2.output, by omega, fun k hk hn => (h2.block k (by simp; omega) hn).trans (Below.heap_alloc W _ k (by omega))⟩
 ·rcases h3 g hg with h | h
  ·exact .inl h
  ·exact .inr (by simp at h; omega)
open Go.RowKit
theorem allR_self {f : Nd → Nd → Bool} (hf : ∀ t, f t t = true) (l : List Nd) (n : Nat) : allR f l l n = true := by
 unfold allR; rw [List.all_eq_true]; intro j _; exact hf _
theorem sameV_self {f : Nd → Nd → Bool} (hf : ∀ t, f t t = true) (l : List Nd) : sameV f l l = true := by
 unfold sameV; rw [allR_self hf, decide_eq_true rfl]; rfl
theorem ndE_self (t : Nd) : ndE t t = true := by unfold ndE ndQ; simp
theorem sameVO_self (l : List Or) : sameVO orE l l = true := by
 unfold sameVO allRO
 rw [decide_eq_true rfl, Bool.true_and, List.all_eq_true]
 intro j _; unfold orE orQ; simp
open Go.ChangeShapes Go.WideShapes Go.ChangeAt Go.RowKit
inductive Sc where
 | i (k : IntKind)
 | b
 | s
 | sl (t : TypeId)
 deriving DecidableEq
def flatL (g : TypeId → Option (List Sc)) (P : Program) : List (TypeId × Nat) → Nat → Option (List Sc)
 | [], _ => some []
 | (t, o) :: r, k => if o = k then (match g t with
   | some a => if a.length = P.cellsOf t then (flatL g P r (k + a.length)).map (a ++ ·) else none
   | none => none) else none
def whole (P : Program) (t : TypeId) (x : Option (List Sc)) : Option (List Sc) :=
 match x with
 | some ks => if ks.length = P.cellsOf t then some ks else none
 | none => none
def flat (P : Program) : Nat → TypeId → Option (List Sc)
 | 0, _ => none
 | f + 1, t => match P.underlying t with
  | some .bool => some [.b]
  | some (.int k) => some [.i k]
  | some .string => some [.s]
  | some (.slice _) => some [.sl t]
  | some (.struct fs) => whole P t (flatL (flat P f) P (fs.toList.map fun x => (x.type, x.offset)) 0)
  | some (.array n e) => whole P t (flatL (flat P f) P ((List.range n).map fun i => (e, i * P.cellsOf e)) 0)
  | _ => none
def Fit (R : Sc → Value → Prop) : List Sc → List Value → Prop
 | [], [] => True
 | k :: ks, v :: vs => R k v ∧ Fit R ks vs
 | _, _ => False
theorem Fit.length {R : Sc → Value → Prop} : ∀ {ks : List Sc} {vs : List Value}, Fit R ks vs → ks.length = vs.length
 | [], [], _ => rfl
 | _ :: _, _ :: _, h => congrArg Nat.succ (Fit.length h.2)
 | [], _ :: _, h => h.elim
 | _ :: _, [], h => h.elim
theorem Fit.append {R : Sc → Value → Prop} : ∀ {ks : List Sc} {vs : List Value} {ks' : List Sc} {vs' : List Value}, Fit R ks vs → Fit R ks' vs' → Fit R (ks ++ ks') (vs ++ vs')
 | [], [], _, _, _, h => h
 | _ :: _, _ :: _, _, _, h, h' => ⟨h.1, Fit.append h.2 h'⟩
 | [], _ :: _, _, _, h, _ => h.elim
 | _ :: _, [], _, _, h, _ => h.elim
theorem flatL_fit {R : Sc → Value → Prop} (g : TypeId → Option (List Sc)) (P : Program) (cs : List Value) : ∀ (l : List (TypeId × Nat)) (k : Nat) (ks : List Sc), flatL g P l k = some ks →
  (∀ (i : Nat) (t : TypeId) (o : Nat), l[i]? = some (t, o) → ∀ a, g t = some a → Fit R a ((cs.drop o).take (P.cellsOf t))) → k + ks.length = cs.length → Fit R ks (cs.drop k) := by
 intro l
 induction l with
 | nil =>
  intro k ks h _ hl
  simp only [flatL, Option.some.injEq] at h
  subst h
  rw [List.drop_eq_nil_of_le (by simp at hl; omega)]
  trivial
 | cons x r ih =>
  obtain ⟨t, o⟩ := x
  intro k ks h hf hl
  unfold flatL at h
  by_cases ho : o = k
  ·rw [if_pos ho] at h
   subst ho
   cases hg : g t with
   | none => rw [hg] at h; cases h
   | some a =>
    rw [hg] at h
    simp only [] at h
    by_cases ha : a.length = P.cellsOf t
    ·rw [if_pos ha] at h
     cases hr : flatL g P r (o + a.length) with
     | none => rw [hr] at h; cases h
     | some b =>
      rw [hr] at h
      simp only [Option.map_some, Option.some.injEq] at h
      subst h
      have h1 := hf 0 t o rfl a hg
      have h2 := ih (o + a.length) b hr (fun i t' o' h' => hf (i + 1) t' o' (by simpa using h')) (by rw [List.length_append] at hl; omega)
      have h3 := h1.append h2
      rw [← ha, ← List.drop_drop, List.take_append_drop] at h3
      exact h3
    ·rw [if_neg ha] at h; cases h
  ·rw [if_neg ho] at h; cases h
section
variable {H : Type} {enc : TypeId × Value → H} {P : Program} {w : World} {base : Nat} {sp : Nat → Bool} {held : Bool}
def ScOk (enc : TypeId × Value → H) (P : Program) (w : World) (base : Nat) (sp : Nat → Bool) (held : Bool) : Sc → Value → Prop
 | .i k, v => ∃ n, v = .int k n ∧ (Lit.int k n).wf = true
 | .b, v => ∃ x, v = .bool x
 | .s, v => ∃ x, v = .string x ∧ x.size ≤ reachBytes
 | .sl t, v => ∃ a l c fuel y, v = .slice a l c ∧ DataW.trod enc P w base sp held fuel t [v] = some y ∧ ∀ x ∈ DataW.weights P t y.1, x ≤ reachBytes
theorem trod_bool_form {fuel : Nat} {t : TypeId} {cs : List Value} {x : DataW H × List MemPlace} (ht : P.underlying t = some .bool) (h : DataW.trod enc P w base sp held fuel t cs = some x) : ∃ b, cs = [.bool b] := by
 cases fuel with
 | zero => simp [DataW.trod] at h
 | succ n =>
  unfold DataW.trod at h
  rw [ht] at h
  split at h <;> simp_all
theorem weightsAll_mem {e : TypeId} : ∀ (ds : List (DataW H)) (j : Nat) (d : DataW H), ds[j]? = some d → ∀ x ∈ DataW.weights P e d, x ∈ DataW.weightsAll P e ds
 | [], _, _, h, _, _ => by simp at h
 | d :: r, 0, _, h, x, hx => by
  simp only [List.getElem?_cons_zero, Option.some.injEq] at h
  subst h
  simp only [DataW.weightsAll, List.mem_append]; exact .inl hx
 | d :: r, j + 1, d', h, x, hx => by
  simp only [DataW.weightsAll, List.mem_append]; exact .inr (weightsAll_mem r j d' (by simpa using h) x hx)
theorem whole_some {t : TypeId} {x : Option (List Sc)} {ks : List Sc} (h : whole P t x = some ks) : x = some ks ∧ ks.length = P.cellsOf t := by
 unfold whole at h
 cases x with
 | none => cases h
 | some a =>
  simp only [] at h
  by_cases hl : a.length = P.cellsOf t
  ·rw [if_pos hl, Option.some.injEq] at h; subst h; exact ⟨rfl, hl⟩
  ·rw [if_neg hl] at h; cases h
theorem flat_fit : ∀ (f fuel : Nat) (t : TypeId) (cs : List Value) (y : DataW H × List MemPlace) (ks : List Sc), flat P f t = some ks → DataW.trod enc P w base sp held fuel t cs = some y →
    (∀ x ∈ DataW.weights P t y.1, x ≤ reachBytes) → Fit (ScOk enc P w base sp held) ks cs := by
  intro f
  induction f with
  | zero => intro _ _ _ _ _ h; cases h
  | succ f ih =>
    intro fuel t cs y ks h hy hw
    unfold flat at h
    cases hu : P.underlying t with
    | none => rw [hu] at h; cases h
    | some U =>
      rw [hu] at h
      cases U <;> simp only [Option.some.injEq, reduceCtorEq] at h
      case bool =>
        subst h
        obtain ⟨b, rfl⟩ := trod_bool_form hu hy
        exact ⟨⟨b, rfl⟩, trivial⟩
      case int k =>
        subst h
        obtain ⟨n, rfl, _, hwf⟩ := DataW.trod_int hu hy
        exact ⟨⟨n, rfl, hwf⟩, trivial⟩
      case string =>
        subst h
        obtain ⟨s, rfl, rfl, _⟩ := DataW.trod_string hu hy
        refine ⟨⟨s, rfl, ?_⟩, trivial⟩
        have e : s.size = s.data.toList.length := by simp
        rw [e]
        exact hw s.data.toList.length (by simp only [DataW.weights, List.mem_singleton])
      case slice e =>
        subst h
        obtain ⟨a, l, c, rfl⟩ := Joins.slice_form hu hy
        exact ⟨⟨a, l, c, fuel, y, rfl, hy, hw⟩, trivial⟩
      case struct fs =>
        obtain ⟨hx, hlen⟩ := whole_some h
        obtain ⟨xs, n, rfl, rfl, hl, hxl, hf⟩ := DataW.trod_struct hu hy
        have := flatL_fit (R := ScOk enc P w base sp held) (flat P f) P cs _ 0 ks hx (by
          intro i t' o' hi a ha
          rw [List.getElem?_map] at hi
          cases hfi : fs.toList[i]? with
          | none => rw [hfi] at hi; cases hi
          | some fd =>
            rw [hfi] at hi
            simp only [Option.map_some, Option.some.injEq, Prod.mk.injEq] at hi
            obtain ⟨rfl, rfl⟩ := hi
            have hfi' : fs[i]? = some fd := by simpa using hfi
            have hil : i < xs.length := by rw [hxl]; exact (Array.getElem?_eq_some_iff.1 hfi').1
            have h1 := hf i fd hfi'
            rw [List.getElem?_eq_getElem hil] at h1
            refine ih n _ _ _ _ ha h1 fun x hxw => hw x ?_
            simp only [DataW.weights, hu]
            exact DataW.weights_mem_each (j := i) (by rw [List.getElem?_map, hfi]; rfl) (by rw [List.getElem?_map, List.getElem?_eq_getElem hil]; rfl) x hxw) (by rw [hl]; omega)
        simpa using this
      case array n e =>
        obtain ⟨hx, hlen⟩ := whole_some h
        obtain ⟨xs, m, rfl, rfl, hl, hxl, hf⟩ := DataW.trod_array hu hy
        have := flatL_fit (R := ScOk enc P w base sp held) (flat P f) P cs _ 0 ks hx (by
          intro i t' o' hi a ha
          rw [List.getElem?_map] at hi
          by_cases hin : i < n
          · rw [List.getElem?_range hin] at hi
            simp only [Option.map_some, Option.some.injEq, Prod.mk.injEq] at hi
            obtain ⟨rfl, rfl⟩ := hi
            have hil : i < xs.length := by omega
            have h1 := hf i hin
            rw [List.getElem?_eq_getElem hil] at h1
            refine ih m _ _ _ _ ha h1 fun x hxw => hw x ?_
            simp only [DataW.weights, hu]
            exact weightsAll_mem _ i _ (by rw [List.getElem?_map, List.getElem?_eq_getElem hil]; rfl) x hxw
          · rw [List.getElem?_eq_none (by simp; omega)] at hi; cases hi) (by rw [hl]; omega)
        simpa using this
theorem fit_i {R : Sc → Value → Prop} {k : Sc} {ks : List Sc} {cs : List Value} (h : Fit R (k :: ks) cs) : ∃ v vs, cs = v :: vs ∧ R k v ∧ Fit R ks vs := by
 cases cs with
 | nil => exact h.elim
 | cons v vs => exact ⟨v, vs, rfl, h.1, h.2⟩
end
theorem sized_of {H : Type} {P : Program} {ts : List TypeId} {ds : List (DataW H)} (h : (DataW.weightsEach P ts ds).all (· ≤ reachBytes) = true) {j : Nat} {t : TypeId} {d : DataW H} (ht : ts[j]? = some t) (hd : ds[j]? = some d) : ∀ x ∈ DataW.weights P t d, x ≤ reachBytes := by
 intro x hx
 have := List.all_eq_true.1 h _ (DataW.weights_mem_each ht hd x hx)
 simpa using this
theorem reach_le {n : Nat} (h : n ≤ reachBytes) : n ≤ 140737488351232 := h
end Go.Proofs.YthpcbgljbpmafaaGreatDoor
