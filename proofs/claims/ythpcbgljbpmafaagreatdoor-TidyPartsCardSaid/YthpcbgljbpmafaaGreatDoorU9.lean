/- Plain facts on what lex.Tokens tells: bounds. -/
import Derived.Test.YthpcbgljbpmafaaGreatDoorU3
import Derived.Test.YthpcbgljbpmafaaGreatDoorU6
import Derived.Test.YthpcbgljbpmafaaGreatDoorU7
import Derived.Lib.ItoaNum
import Derived.Laws.AppendOwn
set_option maxRecDepth 100000
set_option maxHeartbeats 8000000
namespace Go.Proofs.YthpcbgljbpmafaaGreatDoor
open Go.RowKit
set_option linter.unusedVariables false
set_option linter.unusedSimpArgs false
theorem firstF_er (l : List UInt8) : 0 ≤ (firstF l).2.2 ∧ (firstF l).2.2 ≤ 202 := by
 match l with
 | [] => simp [firstF]
 | c :: t => simp only [firstF]; (repeat' split) <;> simp
theorem lx_er : ∀ (f : Nat) (l : List UInt8) (p : Nat) (acc : List Tk), 0 ≤ (lx f l p acc).2.2 ∧ (lx f l p acc).2.2 ≤ 202
 | 0, _, _, _ => by simp [lx]
 | f + 1, l, p, acc => by
  unfold lx
  simp only []
  split
  ·simp
  ·split
   ·exact lx_er f _ _ _
   ·exact firstF_er _
theorem lx_len : ∀ (f : Nat) (l : List UInt8) (p : Nat) (acc : List Tk), (lx f l p acc).1.length ≤ acc.length + l.length
 | 0, _, _, _ => by simp [lx]
 | f + 1, l, p, acc => by
  unfold lx
  simp only []
  split
  ·simp
  ·rename_i hm
   split
   ·rename_i he
    have hp := firstF_pos hm he
    refine Nat.le_trans (lx_len f _ _ _) ?_
    simp only [List.length_append, List.length_drop, List.length_cons, List.length_nil] at hp ⊢
    omega
   ·simp
theorem lexR_bd (s : ByteArray) : 0 ≤ (lexR s).2.2 ∧ (lexR s).2.2 ≤ 202 := by
 unfold lexR
 split
 ·simp
 ·split
  ·simp
  ·exact lx_er _ _ _ _
theorem lexR_len (s : ByteArray) : (lexR s).1.length ≤ 4096 := by
 unfold lexR
 split
 ·simp
 ·split
  ·simp
  ·have := lx_len (s.data.toList.length + 1) s.data.toList 0 []
   rw [len_list] at this
   unfold lxAt
   rw [len_list]
   simp at this
   omega
theorem OwnK.cases {B : Nat} {w : World} {v : Value} {l : List Tk} (h : OwnK B w v l) : (v = .slice none 0 0 ∧ l = []) ∨ ∃ g c, v = .slice (some ⟨g, 0, none⟩) l.length c ∧ B ≤ g ∧ g < w.heap.size ∧ TkSl w g 0 l ∧ ∀ o, w.frozen? ⟨g, o, none⟩ = false := by
 have hr := h.rd
 rcases h.2 with ⟨rfl, h0⟩ | ⟨g, cap, cur, rfl, hb, hg, hc, hm, hsz, htk⟩
 ·exact .inl ⟨rfl, List.eq_nil_of_length_eq_zero h0⟩
 ·refine .inr ⟨g, cap, rfl, hb, (Array.getElem?_eq_some_iff.1 hg).1, ?_, fun o => World.ownsRow.frozenAt h o⟩
  rcases hr with ⟨rfl, _⟩ | ⟨g', c', he, _, hs⟩
  ·intro i hi; simp at hi
  ·injection he with he _ _
   injection he with he
   injection he with he _ _
   subst he
   exact hs
open Go.RowKit
theorem widF_asc {s : ByteArray} {k : Nat} (h : k < s.size) (hb : bAt s k < 128) : widF s k = 1 := by
 have h0 := (bAt_bd s k).1
 have hl : leadF (bAt s k) = 1 := by unfold leadF; (repeat' split) <;> omega
 unfold widF
 rw [hl, decide_eq_true (by omega : (k : Int) + 1 ≤ s.size)]
 rfl
theorem va_asc (s : ByteArray) (h : ∀ k, k < s.size → bAt s k < 128) : vaV s = (0, true) := by
 rw [vaV_eq]
 have : ∀ d k, s.size - k = d → vaAt s k = (0, true) := by
  intro d
  induction d with
  | zero => intro k hk; exact vaAt_end (by omega)
  | succ d ih =>
   intro k hk
   have hw := widF_asc (by omega : k < s.size) (h k (by omega))
   rw [vaAt_step (by omega) (by rw [hw]; decide), hw]
   exact ih (k + 1) (by omega)
 exact this _ 0 rfl
theorem bAt_mem (l : List UInt8) (h : l.all (fun b => decide (b.toNat < 128)) = true) (k : Nat) (hk : k < (bs l).size) : bAt (bs l) k < 128 := by
 unfold bAt
 rw [bs_list]
 have hk' : k < l.length := hk
 rw [List.getElem?_eq_getElem hk']
 rw [List.all_eq_true] at h
 have := h l[k] (List.getElem_mem _)
 simp at this
 show ((l[k].toNat : Nat) : Int) < 128
 omega
def asc (l : List UInt8) : Bool := l.all (fun b => decide (b.toNat < 128))
theorem lexR_asc {l : List UInt8} (h : asc l = true) (hl : l.length ≤ 4096) : lexR (bs l) = lxAt l 0 [] := by
 unfold lexR
 rw [if_neg (by rw [bs_size]; omega), va_asc _ (bAt_mem l h)]
 rfl
theorem runN_app {l r : List UInt8} (h : l.all isN = true) : runN (l ++ r) = l.length + runN r := by
 induction l with
 | nil => simp
 | cons c l ih =>
  rw [List.all_cons, Bool.and_eq_true] at h
  rw [List.cons_append, runN_yes h.1, ih h.2, List.length_cons]; omega
open Go.RowKit
def nmB (l : List UInt8) : Bool := decide (l.length ≤ 16) && letB l && !kwB l
def nmR (R : List Tk × Int × Int) (s : ByteArray) : Bool := match R.1 with
 | [t] => (R.2.2 == 0) && (t.kind == 0) && decide (bs t.text = s)
 | _ => false
theorem isN_asc {c : UInt8} (h : isN c = true) : decide (c.toNat < 128) = true := by
 unfold isN isL isD at h; simp at h ⊢; omega
theorem asc_isN {l : List UInt8} (h : l.all isN = true) : asc l = true := by
 unfold asc
 rw [List.all_eq_true] at h ⊢
 exact fun x hx => isN_asc (h x hx)
theorem letB_all {l : List UInt8} (h : letB l = true) : l.all isN = true ∧ l ≠ [] := by
 cases l with
 | nil => simp [letB] at h
 | cons c t =>
  rw [letB_cons, Bool.and_eq_true] at h
  exact ⟨by rw [List.all_cons, isL_isN h.1, h.2]; rfl, by simp⟩
theorem runN_whole {l : List UInt8} (h : l.all isN = true) : runN l = l.length := by
 have := runN_app (r := []) h
 rw [List.append_nil, runN_nil] at this; omega
theorem skip_let {c : UInt8} {t : List UInt8} (h : isL c = true) : skipF false (c :: t) = 0 := by
 unfold isL at h
 simp at h
 rw [skipF_cons, if_neg (by omega), if_neg (by omega), if_neg (by omega)]; rfl
theorem lexR_name {s : ByteArray} (h : nmB s.data.toList = true) : lexR s = ([⟨0, s.data.toList, 0, 0⟩], 0, 0) := by
 unfold nmB at h
 simp only [Bool.and_eq_true, decide_eq_true_eq, Bool.not_eq_true'] at h
 obtain ⟨⟨hl, hb⟩, hk⟩ := h
 obtain ⟨ha, hne⟩ := letB_all hb
 have hsb : bs s.data.toList = s := ba_ext rfl
 have h1 := lexR_asc (asc_isN ha) (by omega)
 rw [hsb] at h1
 rw [h1]
 generalize s.data.toList = l at hl hb hk ha hne
 match l, hne with
 | c :: t, _ =>
  rw [letB_cons, Bool.and_eq_true] at hb
  have hr := runN_whole ha
  have hf : firstF (c :: t) = (⟨0, c :: t, 0, 0⟩, (c :: t).length, 0) := by
   simp only [firstF]
   rw [if_pos hb.1, hr, List.take_length, hk]
   simp only [Bool.false_eq_true, if_false]
   rw [if_neg (by omega)]
  rw [lxAt_more (skip_let hb.1) (by simp) hf, List.drop_length, lxAt_nil]
  rfl
theorem tw_all (l : List UInt8) : ∀ x ∈ l.takeWhile isN, isN x = true := by
 induction l with
 | nil => intro x hx; simp at hx
 | cons c t ih =>
  intro x hx
  cases h : isN c
  ·rw [List.takeWhile_cons_of_neg (by rw [h]; simp)] at hx; simp at hx
  ·rw [List.takeWhile_cons_of_pos h] at hx
   rcases List.mem_cons.1 hx with rfl | hx
   ·exact h
   ·exact ih x hx
theorem firstF_kind0 {m : List UInt8} {t : Tk} {n : Nat} (hne : m ≠ []) (hf : firstF m = (t, n, 0)) (hk : t.kind = 0) : letB t.text = true ∧ kwB t.text = false ∧ t.text.length ≤ 16 ∧ t.text = m.take n := by
 match m, hne with
 | c :: r, _ =>
  simp only [firstF] at hf
  by_cases hl : isL c = true
  ·rw [if_pos hl] at hf
   split at hf
   ·injection hf with h1 h2; subst h1; simp at hk
   ·rename_i hkw
    split at hf
    ·injection hf with h1 h2; injection h2 with h2 h3; simp at h3
    ·rename_i hlen
     injection hf with h1 h2; injection h2 with h2 h3
     subst h1
     subst h2
     have hr := runN_le (c :: r)
     have hlet : letB ((c :: r).take (runN (c :: r))) = true := by
      rw [runN_take]
      rw [List.takeWhile_cons_of_pos (isL_isN hl), letB_cons, hl, Bool.true_and, List.all_eq_true]
      intro x hx
      exact tw_all r x hx
     refine ⟨hlet, by simpa using hkw, by simpa using hlen, ?_⟩
     show (c :: r).take (runN (c :: r)) = (c :: r).take ((c :: r).take (runN (c :: r))).length
     rw [List.length_take, Nat.min_eq_left hr]
  ·rw [if_neg hl] at hf
   by_cases hd : isD c = true
   ·rw [if_pos hd] at hf
    split at hf
    ·injection hf with h1 h2; subst h1; simp at hk
    ·injection hf with h1 h2; injection h2 with h2 h3; simp at h3
   ·rw [if_neg hd] at hf
    split at hf
    ·injection hf with h1 h2; injection h2 with h2 h3; simp at h3
    ·injection hf with h1 h2; subst h1; simp at hk
theorem lx_pre : ∀ (f : Nat) (l : List UInt8) (p : Nat) (acc : List Tk), (lx f l p acc).2.2 = 0 → l.length < f → ∃ r, (lx f l p acc).1 = acc ++ r ∧ ∀ t ∈ r, t.kind = 0 → letB t.text = true ∧ kwB t.text = false ∧ t.text.length ≤ 16
 | 0, _, _, _, _, h => by omega
 | f + 1, l, p, acc, he, hl => by
  unfold lx at he ⊢
  simp only [] at he ⊢
  by_cases hm : l.drop (skipF false l) = []
  ·rw [if_pos hm]; exact ⟨[], by simp, by simp⟩
  ·rw [if_neg hm] at he ⊢
   by_cases h0 : (firstF (l.drop (skipF false l))).2.2 = 0
   ·rw [if_pos h0] at he ⊢
    have hp := firstF_pos hm h0
    obtain ⟨r, h1, h2⟩ := lx_pre f _ _ _ he (by simp only [List.length_drop] at hp ⊢; omega)
    refine ⟨_, by rw [h1, List.append_assoc], ?_⟩
    intro t ht hk
    rcases List.mem_append.1 ht with h | h
    ·simp only [List.mem_cons, List.not_mem_nil, or_false] at h
     subst h
     obtain ⟨⟨t1, n, er⟩, hq⟩ : ∃ q, firstF (l.drop (skipF false l)) = q := ⟨_, rfl⟩
     rw [hq] at h0 hk ⊢
     obtain rfl : er = 0 := h0
     obtain ⟨a1, a2, a3, _⟩ := firstF_kind0 hm hq hk
     exact ⟨a1, a2, a3⟩
    ·exact h2 t h hk
   ·rw [if_neg h0] at he; exact absurd he h0
theorem nm_iff (s : ByteArray) : nmR (lexR s) s = nmB s.data.toList := by
 cases hb : nmB s.data.toList
 ·unfold nmR
  split
  ·rename_i t ht
   cases hc : ((lexR s).2.2 == 0) && (t.kind == 0) && decide (bs t.text = s)
   ·rfl
   ·exfalso
    simp only [Bool.and_eq_true, beq_iff_eq, decide_eq_true_eq] at hc
    obtain ⟨⟨h1, h2⟩, h3⟩ := hc
    have hl : t.text = s.data.toList := by rw [← h3]; rfl
    have hlr : ∃ r, (lexR s).1 = r ∧ ∀ t ∈ r, t.kind = 0 → letB t.text = true ∧ kwB t.text = false ∧ t.text.length ≤ 16 := by
     unfold lexR at h1 ⊢
     split at h1
     ·simp at h1
     ·split at h1
      ·simp at h1
      ·rename_i h5 h6
       rw [if_neg h5, if_neg h6]
       obtain ⟨r, h7, h8⟩ := lx_pre _ _ _ _ h1 (Nat.lt_succ_self _)
       exact ⟨r, by rw [lxAt, h7]; rfl, h8⟩
    obtain ⟨r, h7, h8⟩ := hlr
    rw [ht] at h7
    subst h7
    obtain ⟨q1, q2, q3⟩ := h8 t (by simp) h2
    rw [hl] at q1 q2 q3
    unfold nmB at hb
    rw [q1, q2, decide_eq_true q3] at hb
    cases hb
  ·rfl
 ·rw [lexR_name hb]
  unfold nmR
  simp only []
  rw [decide_eq_true (show bs s.data.toList = s from ba_ext rfl)]
  rfl
open Go.RowKit
theorem below_alc (w : World) (o : Obj) : Below w.heap.size w (w.alloc o) := (Below.refl _ _).alloc (Nat.le_refl _) _
theorem belA {w W : World} (o : Obj) (h : Below w.heap.size w W) : Below w.heap.size w (W.alloc o) := h.alloc h.size _
theorem setS {W : World} {p : Addr} {v u : Value} (h : W.cell? p = some u) : (W.setCell p v).cell? p = some v := by
 rw [World.cell?_setCell_same _ _ _ h]
theorem setO {W : World} {p q : Addr} {v u : Value} (h : W.cell? p = some u) (hne : q ≠ p) : (W.setCell q v).cell? p = some u := (World.cell?_setCell_other _ _ _ _ hne).trans h
structure Bar (S : Nat → Prop) (w w' : World) : Prop where
 os : w'.os = w.os
 tape : w'.tape = w.tape
 output : w'.output = w.output
 size : w.heap.size ≤ w'.heap.size
 block : ∀ k, k < w.heap.size → ¬ S k → w'.heap[k]? = w.heap[k]?
theorem Bar.refl (S : Nat → Prop) (w : World) : Bar S w w := ⟨rfl, rfl, rfl, Nat.le_refl _, fun _ _ _ => rfl⟩
theorem Bar.trans {S S' : Nat → Prop} {w w1 w2 : World} (h : Bar S w w1) (h' : Bar S' w1 w2) (hs : ∀ k, k < w.heap.size → S' k → S k) : Bar S w w2 :=
 ⟨h'.os.trans h.os, h'.tape.trans h.tape, h'.output.trans h.output, Nat.le_trans h.size h'.size, fun k hk hn => (h'.block k (Nat.lt_of_lt_of_le hk h.size) (fun hc => hn (hs k hk hc))).trans (h.block k hk hn)⟩
theorem Bar.of_below {S : Nat → Prop} {w w' : World} (h : Below w.heap.size w w') : Bar S w w' := ⟨h.os, h.tape, h.output, h.size, fun k hk _ => h.block k hk⟩
theorem Bar.next {S : Nat → Prop} {w w1 w2 : World} (h : Bar S w w1) (h' : Below w1.heap.size w1 w2) : Bar S w w2 := h.trans (Bar.of_below (S := S) h') fun _ _ hs => hs
theorem Bar.below {S : Nat → Prop} {B : Nat} {w w' : World} (h : Bar S w w') (hB : B ≤ w.heap.size) (hS : ∀ k, S k → B ≤ k) : Below B w w' :=
 ⟨h.os, h.tape, h.output, h.size, fun k hk => h.block k (by omega) (fun hs => by have := hS k hs; omega)⟩
theorem Bar.set {S : Nat → Prop} {w : World} (p : Addr) (v : Value) (hp : S p.block) : Bar S w (w.setCell p v) :=
 ⟨rfl, rfl, rfl, by simp [World.setCell], fun k _ hn => Below.heap_setCell w p v k (fun e => hn (e ▸ hp))⟩
theorem Bar.cell {S : Nat → Prop} {w w' : World} {a : Addr} {v : Value} (h : Bar S w w') (hc : w.cell? a = some v) (hn : ¬ S a.block) : w'.cell? a = some v :=
 (World.cell?_of_block (h.block a.block (World.block_lt_of_cell? w a hc) hn)).trans hc
theorem Bar.frozen {S : Nat → Prop} {w w' : World} {a : Addr} (h : Bar S w w') (hl : a.block < w.heap.size) (hn : ¬ S a.block) : w'.frozen? a = w.frozen? a :=
 World.frozen?_of_block (h.block a.block hl hn)
theorem Bar.own {S : Nat → Prop} {w w' : World} {base : Nat} {e : TypeId} {size : Nat} {v : Value} {n : Nat} {xs : List Value} (h : Bar S w w') (ho : w.ownsRow base e size v n xs) (hn : ∀ k, v.ownBlock = some k → ¬ S k) : w'.ownsRow base e size v n xs := by
 refine ⟨ho.1, ?_⟩
 rcases ho.2 with h0 | ⟨g, cap, cur, rfl, hb, hgg, rest⟩
 ·exact .inl h0
 ·exact .inr ⟨g, cap, cur, rfl, hb, (h.block g (Array.getElem?_eq_some_iff.1 hgg).1 (hn g rfl)).trans hgg, rest⟩
theorem own_lt {w : World} {B : Nat} {e : TypeId} {s : Nat} {v : Value} {n : Nat} {xs : List Value} (h : w.ownsRow B e s v n xs) : ∀ k, v.ownBlock = some k → B ≤ k ∧ k < w.heap.size := h.lt
end Go.Proofs.YthpcbgljbpmafaaGreatDoor
