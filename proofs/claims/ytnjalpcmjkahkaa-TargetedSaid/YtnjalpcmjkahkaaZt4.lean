/- target.May: rows of nodes in memory; the closure. -/
import Derived.Test.YtnjalpcmjkahkaaZt2
import Derived.Test.YtnjalpcmjkahkaaZt3
import Derived.Laws.AppendOwn
import Derived.Laws.AppendOwnNone
import Derived.OwnWalk
import Derived.Deep.WholeRow
set_option maxRecDepth 100000
set_option maxHeartbeats 8000000
namespace Go.Proofs.Ytnjalpcmjkahkaa
open Go.RowKit
set_option linter.unusedVariables false
set_option linter.unusedSimpArgs false
def tg0 : Tg := ⟨0, 0, 0, 0, 0, 0, 0, 0, 0⟩
def TgAt (w : World) (b off : Nat) (t : Tg) (i : Nat) : Prop :=
 w.cell? ⟨b, off + i * 9, none⟩ = some (.int .i64 t.k) ∧ w.cell? ⟨b, off + i * 9 + 1, none⟩ = some (.int .i64 t.a) ∧ w.cell? ⟨b, off + i * 9 + 2, none⟩ = some (.int .i64 t.b) ∧
 w.cell? ⟨b, off + i * 9 + 3, none⟩ = some (.int .i64 t.c) ∧ w.cell? ⟨b, off + i * 9 + 4, none⟩ = some (.int .i64 t.n) ∧ w.cell? ⟨b, off + i * 9 + 5, none⟩ = some (.int .i64 t.x) ∧
 w.cell? ⟨b, off + i * 9 + 6, none⟩ = some (.int .i64 t.y) ∧ w.cell? ⟨b, off + i * 9 + 7, none⟩ = some (.int .i64 t.z) ∧ w.cell? ⟨b, off + i * 9 + 8, none⟩ = some (.int .i64 t.w)
theorem TgAt.below {B : Nat} {w w' : World} {b off i : Nat} {t : Tg} (h : TgAt w b off t i) (hb : Below B w w') (hB : b < B) : TgAt w' b off t i := by
 unfold TgAt at *
 have e : ∀ o, w'.cell? ⟨b, o, none⟩ = w.cell? ⟨b, o, none⟩ := fun o => hb.cell (p := ⟨b, o, none⟩) hB
 simp only [e]; exact h
def TgSl (w : World) (b off : Nat) (ts : List Tg) : Prop := ∀ i, i < ts.length → TgAt w b off (ts.getD i tg0) i
theorem TgSl.below {B : Nat} {w w' : World} {b off : Nat} {ts : List Tg} (h : TgSl w b off ts) (hb : Below B w w') (hB : b < B) : TgSl w' b off ts :=
 fun i hi => (h i hi).below hb hB
theorem may1_any (b off cp p at_ : Nat) (ts : List Tg) (w : World) (hp : w.cell? ⟨p, 0, none⟩ = some (.slice (some ⟨b, off, none⟩) ts.length cp)) (h : Hid (TgSl w b off ts)) (hat : at_ < ts.length) (hl : ts.length ≤ 140737488351232) :
  Calls Try.prog 28 #[.int .i64 at_, .pointer (some ⟨p, 0, none⟩)] w fun e w' => e = .returned (kidV (kidsL (ts.getD at_ tg0).k (ts.getD at_ tg0).a (ts.getD at_ tg0).b (ts.getD at_ tg0).c)) ∧ Below w.heap.size w w' := by
 have hT := h.out at_ hat
 generalize ts.getD at_ tg0 = t at hT
 obtain ⟨e0, e1, e2, e3, e4, e5, e6, e7, e8⟩ := hT
 have hbs := World.block_lt_of_cell? _ _ e0
 have hps := World.block_lt_of_cell? _ _ hp
 simp only [] at hbs hps
 go_enter Try.func28, Try.ntmps28
 go_wp2_with fail
 refine (children_any _ _ _ _ _ _ _ _ _ _).mono ?_
 rintro e w1 ⟨rfl, hb1⟩
 obtain ⟨hc1, hf1⟩ := bcell hb1
 have hz1_0 : w.heap.size < w1.heap.size := by have := hb1.size; (try simp at this); omega
 rw [kidV_eq]
 go_wp2_with fail
 exact bodyPost_ret (v := kidV (kidsL t.k t.a t.b t.c)) (by simp [results, Try.results28, go_sem, kidV, hc1, hf1]) rfl ⟨rfl, by (repeat' (first | (with_reducible first | exact bR _ _ | assumption | apply bS | apply bA | apply bD | apply bN | exact bL _) | (simp; done) | (simp; omega) | omega | exact bL _)); exact belT (by (repeat' (first | (with_reducible first | exact bR _ _ | assumption | apply bS | apply bA | apply bD | apply bN | exact bL _) | (simp; done) | (simp; omega) | omega | exact bL _))) hb1⟩
theorem allT_take {α : Type} (l : List α) (d : α) (p : α → Bool) (j : Nat) (h : j < l.length) : (l.take (j + 1)).all p = ((l.take j).all p && p (l.getD j d)) := by
 rw [List.take_succ_eq_append_getElem h, List.all_append]
 simp [h]
def okT (t : Tg) : Bool := plainT t.k t.a t.b t.c t.n t.x t.y t.z t.w && numT t.k t.n && okNames t.k t.n t.x t.y t.z t.w
open Go.RowKit
def cellsT (t : Tg) : List Value := [.int .i64 t.k, .int .i64 t.a, .int .i64 t.b, .int .i64 t.c, .int .i64 t.n, .int .i64 t.x, .int .i64 t.y, .int .i64 t.z, .int .i64 t.w]
def rowT (ts : List Tg) : List Value := ts.flatMap cellsT
theorem rowT_cons (t : Tg) (ts : List Tg) : rowT (t :: ts) = cellsT t ++ rowT ts := rfl
theorem rowT_app (a b : List Tg) : rowT (a ++ b) = rowT a ++ rowT b := by unfold rowT; rw [List.flatMap_append]
theorem rowT_len (ts : List Tg) : (rowT ts).length = ts.length * 9 := by
 induction ts with
 | nil => rfl
 | cons t ts ih => rw [rowT_cons, List.length_append, ih, List.length_cons]; show 9 + _ = _; omega
theorem rowT_at : ∀ (ts : List Tg) (i j : Nat), i < ts.length → j < 9 → (rowT ts)[i * 9 + j]? = (cellsT (ts.getD i tg0))[j]?
 | [], i, j, h, _ => by simp at h
 | t :: ts, 0, j, _, hj => by
  rw [rowT_cons, List.getElem?_append_left (by show _ < 9; omega)]
  simp
 | t :: ts, i + 1, j, h, hj => by
  rw [rowT_cons, List.getElem?_append_right (by show 9 ≤ _; omega)]
  have e : (i + 1) * 9 + j - (cellsT t).length = i * 9 + j := by show _ - 9 = _; omega
  rw [e, rowT_at ts i j (by simpa using h) hj]
  simp
theorem rowT_one (ts : List Tg) : ∀ u ∈ rowT ts, u.oneCell' = true := by
 intro u hu
 unfold rowT at hu
 rw [List.mem_flatMap] at hu
 obtain ⟨t, _, ht⟩ := hu
 unfold cellsT at ht
 simp only [List.mem_cons, List.not_mem_nil, or_false] at ht
 rcases ht with rfl | rfl | rfl | rfl | rfl | rfl | rfl | rfl | rfl <;> rfl
theorem tgAt_cells {w : World} {b off i : Nat} {t : Tg} : TgAt w b off t i ↔ ∀ j u, (cellsT t)[j]? = some u → w.cell? ⟨b, off + i * 9 + j, none⟩ = some u := by
 constructor
 ·rintro ⟨e0, e1, e2, e3, e4, e5, e6, e7, e8⟩ j u hj
  have hlt : j < 9 := (List.getElem?_eq_some_iff.1 hj).1
  have : j = 0 ∨ j = 1 ∨ j = 2 ∨ j = 3 ∨ j = 4 ∨ j = 5 ∨ j = 6 ∨ j = 7 ∨ j = 8 := by omega
  rcases this with rfl | rfl | rfl | rfl | rfl | rfl | rfl | rfl | rfl <;> (simp [cellsT] at hj; subst hj; assumption)
 ·intro h
  exact ⟨h 0 _ rfl, h 1 _ rfl, h 2 _ rfl, h 3 _ rfl, h 4 _ rfl, h 5 _ rfl, h 6 _ rfl, h 7 _ rfl, h 8 _ rfl⟩
theorem tgSl_cells {w : World} {b off : Nat} {ts : List Tg} : TgSl w b off ts ↔ ∀ q u, (rowT ts)[q]? = some u → w.cell? ⟨b, off + q, none⟩ = some u := by
 constructor
 ·intro h q u hq
  have hlt : q < ts.length * 9 := by rw [← rowT_len]; exact (List.getElem?_eq_some_iff.1 hq).1
  have hi : q / 9 < ts.length := by omega
  have hqe : q = q / 9 * 9 + q % 9 := by omega
  rw [hqe, rowT_at ts (q / 9) (q % 9) hi (by omega)] at hq
  have := tgAt_cells.1 (h (q / 9) hi) (q % 9) u hq
  rw [show off + q = off + q / 9 * 9 + q % 9 from by omega]; exact this
 ·intro h i hi
  rw [tgAt_cells]
  intro j u hj
  have hlt : j < 9 := (List.getElem?_eq_some_iff.1 hj).1
  rw [show off + i * 9 + j = off + (i * 9 + j) from by omega]
  exact h (i * 9 + j) u (by rw [rowT_at ts i j hi hlt]; exact hj)
theorem owns_sl {w : World} {base e n : Nat} {v : Value} {ts : List Tg} (h : w.ownsRow base e 9 v n (rowT ts)) (hn : 0 < n) :
  ∃ g cap, v = .slice (some ⟨g, 0, none⟩) n cap ∧ base ≤ g ∧ g < w.heap.size ∧ n ≤ cap ∧ ts.length = n ∧ TgSl w g 0 ts := by
 obtain ⟨hl, h⟩ := h
 rw [rowT_len] at hl
 rcases h with ⟨rfl, h0⟩ | ⟨g, cap, cur, rfl, hb, hg, hc, hm, hsz, htk⟩
 ·omega
 ·refine ⟨g, cap, rfl, hb, ?_, hc, by omega, ?_⟩
  ·exact (Array.getElem?_eq_some_iff.1 hg).1
  ·rw [tgSl_cells]
   intro q u hq
   have hq' := hq
   rw [← htk] at hq
   have hlt : q < n * 9 := by have := (List.getElem?_eq_some_iff.1 hq').1; rw [rowT_len] at this; omega
   rw [List.getElem?_take_of_lt hlt] at hq
   simp only [World.cell?, hg, Nat.zero_add]
   simpa using hq
def zT : Value := .agg #[.int .i64 0, .int .i64 0, .int .i64 0, .int .i64 0, .int .i64 0, .int .i64 0, .int .i64 0, .int .i64 0, .int .i64 0]
theorem infoT : (Try.prog.info? 37).map (fun i => (i.zero, i.size, i.bytes)) = some (some zT, 9, 72) := by kernel_rfl
theorem Copy_any (b off cp : Nat) (ts : List Tg) (w : World) (h : Hid (TgSl w b off ts)) (hbs : b < w.heap.size) (hl : ts.length * 72 ≤ 140737488351232) :
  Calls Try.prog 14 #[.slice (some ⟨b, off, none⟩) ts.length cp] w fun e w' => ∃ v, e = .returned v ∧ w'.ownsRow w.heap.size 37 9 v ts.length (rowT ts) ∧ Below w.heap.size w w' := by
 obtain ⟨i0, hi, hz0, hz1, hz2⟩ := info_parts infoT
 have hown0 : (w.alloc (.cells #[] 37)).ownsRow w.heap.size 37 9 (.slice (some ⟨w.heap.size, 0, none⟩) 0 0) 0 [] :=
  ⟨rfl, .inr ⟨w.heap.size, 0, #[], rfl, Nat.le_refl _, heap_alloc_last _ _, Nat.le_refl _, by decide, rfl, rfl⟩⟩
 have hown0' := Lib.hid hown0; clear hown0
 have hnews : Hid (∀ j u, (rowT ts)[j]? = some u → (w.alloc (.cells #[] 37)).cell? ((⟨b, off, none⟩ : Addr).add j) = some u) := Lib.hid (by
  intro j u hj
  have e : (⟨b, off, none⟩ : Addr).add j = ⟨b, off + j, none⟩ := by simp [Addr.add]; try omega
  rw [e, World.cell?_alloc_past _ _ _ hbs]
  exact tgSl_cells.1 h.out j u hj)
 go_enter Try.func14, Try.ntmps14
 go_wp2_with (at_builtin; refine wpList_append_own _ rfl (.tmp 3) (.tmp 4) 22 rfl w.heap.size 37 i0 zT 9 72 Try.underlying22 hi hz0 hz1 hz2 rfl (by decide) _ 0 [] rfl hown0'.out ⟨b, off, none⟩ ts.length cp (rowT ts) rfl (rowT_len ts) hnews.out (rowT_one ts) (by unfold maxLen; omega) (by omega) (by simp) ?_)
 intro v' w1 hown1 hgr _
 have hbel : Below w.heap.size w w1 := ((Below.refl _ _).alloc (Nat.le_refl _) _).grown hgr (by simp) (by intro k hk; simp [Value.ownBlock] at hk; omega)
 (try rw [Nat.zero_add, List.nil_append] at hown1)
 have hown1' := Lib.hid hown1; clear hown1 hgr
 go_wp2_with fail
 go_ret
 exact ⟨v', rfl, hown1'.out, hbel⟩
end Go.Proofs.Ytnjalpcmjkahkaa
