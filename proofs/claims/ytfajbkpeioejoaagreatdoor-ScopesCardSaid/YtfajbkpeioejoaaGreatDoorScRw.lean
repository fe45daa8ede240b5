/- The reference's walk over names: plain. -/
import Derived.Test.YtfajbkpeioejoaaGreatDoorScU
import Derived.Test.YtfajbkpeioejoaaGreatDoorScJ
import Derived.Test.YtfajbkpeioejoaaGreatDoorRgT
/- The reference's walk over names: plain. -/
namespace Go.Proofs.YtfajbkpeioejoaaGreatDoor
open Go.RowKit
set_option linter.unusedVariables false
set_option linter.unusedSimpArgs false

/-- nodes, the first error's number (0: none) and place. -/
abbrev RS := List Nd × Int × Int
def failR (s : RS) (c p : Int) : RS := if s.2.1 = 0 then (s.1, c, p) else s
/-- a node's number, and an error's. -/
def meanR (ops bd : List ByteArray) (t : Nd) : Int × Int :=
  if t.k = 0 then match nearI bd t.nm with
    | some i => (i, 0)
    | none => (bd.length, 601)
  else if t.k = 9 ∨ t.k = 10 then match placeI ops t.nm with
    | some i => (i, 0)
    | none => (0, 602)
  else (t.n, 0)
def kidsR (rec : RS → Nat → List ByteArray → RS) : RS → List (Int × List ByteArray) → List ByteArray → RS
  | s, [], _ => s
  | s, (c, bs) :: l, bd => kidsR rec (rec s c.toNat (bd ++ bs)) l bd
def startR (s : RS) (m : Int × Int) (p : Int) : RS := if m.2 = 0 then s else failR s m.2 p
def walkR (ops : List ByteArray) : Nat → RS → Nat → List ByteArray → RS
  | 0, s, _, _ => s
  | f + 1, s, at_, bd =>
    ((kidsR (walkR ops f) (startR s (meanR ops bd (s.1.getD at_ nd0)) (s.1.getD at_ nd0).p) (kidsS (s.1.getD at_ nd0)) bd).1.set at_ (bare (s.1.getD at_ nd0) (meanR ops bd (s.1.getD at_ nd0)).1),
      (kidsR (walkR ops f) (startR s (meanR ops bd (s.1.getD at_ nd0)) (s.1.getD at_ nd0).p) (kidsS (s.1.getD at_ nd0)) bd).2)
theorem startR_fst (s : RS) (m : Int × Int) (p : Int) : (startR s m p).1 = s.1 := by unfold startR failR; (repeat' split) <;> rfl
theorem startR_keep {s : RS} (h : s.2.1 ≠ 0) (m : Int × Int) (p : Int) : startR s m p = s := by unfold startR failR; rw [if_neg h, ite_self]
theorem kidsR_keep {rec : RS → Nat → List ByteArray → RS} (hr : ∀ s c bs, s.2.1 ≠ 0 → (rec s c bs).2 = s.2) : ∀ (l : List (Int × List ByteArray)) (s : RS) (bd : List ByteArray), s.2.1 ≠ 0 → (kidsR rec s l bd).2 = s.2
  | [], s, bd, h => rfl
  | (c, bs) :: l, s, bd, h => by
    have h1 := hr s c.toNat (bd ++ bs) h
    have h2 := kidsR_keep hr l (rec s c.toNat (bd ++ bs)) bd (by rw [h1]; exact h)
    unfold kidsR
    rw [h2, h1]
theorem walkR_keep (ops : List ByteArray) : ∀ (f : Nat) (s : RS) (at_ : Nat) (bd : List ByteArray), s.2.1 ≠ 0 → (walkR ops f s at_ bd).2 = s.2
  | 0, s, at_, bd, h => rfl
  | f + 1, s, at_, bd, h => by
    unfold walkR
    rw [startR_keep h]
    exact kidsR_keep (fun s c bs hs => walkR_keep ops f s c bs hs) _ _ _ h
theorem mean_ok_r {ops bd : List ByteArray} {t : Nd} {m : Int} (h : meanV ops bd t = .ok m) : meanR ops bd t = (m, 0) := by
  unfold meanV at h
  unfold meanR
  by_cases h0 : t.k = 0
  · rw [if_pos h0] at h ⊢
    cases hi : nearI bd t.nm with
    | none => rw [hi] at h; cases h
    | some i => rw [hi] at h; injection h with h; subst h; rfl
  · rw [if_neg h0] at h ⊢
    by_cases h9 : t.k = 9 ∨ t.k = 10
    · rw [if_pos h9] at h ⊢
      cases hi : placeI ops t.nm with
      | none => rw [hi] at h; cases h
      | some i => rw [hi] at h; injection h with h; subst h; rfl
    · rw [if_neg h9] at h ⊢
      injection h with h; subst h; rfl
theorem mean_no_r {ops bd : List ByteArray} {t : Nd} {c : Int} (h : meanV ops bd t = .error c) : (meanR ops bd t).2 = c ∧ c ≠ 0 := by
  unfold meanV at h
  unfold meanR
  by_cases h0 : t.k = 0
  · rw [if_pos h0] at h ⊢
    cases hi : nearI bd t.nm with
    | none => rw [hi] at h; injection h with h; subst h; exact ⟨rfl, by decide⟩
    | some i => rw [hi] at h; cases h
  · rw [if_neg h0] at h ⊢
    by_cases h9 : t.k = 9 ∨ t.k = 10
    · rw [if_pos h9] at h ⊢
      cases hi : placeI ops t.nm with
      | none => rw [hi] at h; injection h with h; subst h; exact ⟨rfl, by decide⟩
      | some i => rw [hi] at h; cases h
    · rw [if_neg h9] at h; cases h
def AgreeR (s : RS) (r : Except (Int × Int) (List Nd)) (s2 : RS) : Prop := match r with
  | .ok ss => s2 = (ss, s.2)
  | .error e => e.1 ≠ 0 → s2.2 = e
theorem kidsR_agree {rec : RS → Nat → List ByteArray → RS} {rv : List Nd → Nat → List ByteArray → Except (Int × Int) (List Nd)} (hk : ∀ s c bs, s.2.1 ≠ 0 → (rec s c bs).2 = s.2) (hr : ∀ s c bs, s.2.1 = 0 → AgreeR s (rv s.1 c bs) (rec s c bs)) :
    ∀ (l : List (Int × List ByteArray)) (s : RS) (bd : List ByteArray), s.2.1 = 0 → AgreeR s (kidsRun rv s.1 l bd) (kidsR rec s l bd)
  | [], s, bd, h => rfl
  | (c, bs) :: l, s, bd, h => by
    have h1 := hr s c.toNat (bd ++ bs) h
    unfold kidsRun kidsR
    cases hv : rv s.1 c.toNat (bd ++ bs) with
    | error e =>
      rw [hv] at h1
      intro he
      have h1 := h1 he
      rw [kidsR_keep hk l _ bd (by rw [h1]; exact he), h1]
    | ok ss =>
      rw [hv] at h1
      have h1 : rec s c.toNat (bd ++ bs) = (ss, s.2) := h1
      rw [h1]
      exact kidsR_agree hk hr l (ss, s.2) bd h
theorem walkR_agree (ops : List ByteArray) : ∀ (f : Nat) (s : RS) (at_ : Nat) (bd : List ByteArray), s.2.1 = 0 → AgreeR s (resS ops f s.1 at_ bd) (walkR ops f s at_ bd)
  | 0, s, at_, bd, h => by intro he; exact absurd rfl he
  | f + 1, s, at_, bd, h => by
    unfold resS walkR
    cases hm : meanV ops bd (s.1.getD at_ nd0) with
    | error c =>
      obtain ⟨h1, h2⟩ := mean_no_r hm
      intro _
      have hs : startR s (meanR ops bd (s.1.getD at_ nd0)) (s.1.getD at_ nd0).p = (s.1, c, (s.1.getD at_ nd0).p) := by
        unfold startR failR; rw [h1, if_neg h2, if_pos h]
      rw [hs]
      exact kidsR_keep (fun s c bs hs => walkR_keep ops f s c bs hs) _ (s.1, c, (s.1.getD at_ nd0).p) _ h2
    | ok m =>
      rw [mean_ok_r hm]
      have hs : startR s (m, 0) (s.1.getD at_ nd0).p = s := rfl
      rw [hs]
      have h1 := kidsR_agree (rv := resS ops f) (fun s c bs hs => walkR_keep ops f s c bs hs) (fun s c bs hs => walkR_agree ops f s c bs hs) (kidsS (s.1.getD at_ nd0)) s bd h
      simp only
      cases hk : kidsRun (resS ops f) s.1 (kidsS (s.1.getD at_ nd0)) bd with
      | error e => rw [hk] at h1; exact h1
      | ok ss =>
        rw [hk] at h1
        have h1 : kidsR (walkR ops f) s (kidsS (s.1.getD at_ nd0)) bd = (ss, s.2) := h1
        rw [h1]; rfl
theorem same_set {a b : List Nd} (h : Same a b) (at_ : Nat) (m : Int) : Same a (b.set at_ (bare (a.getD at_ nd0) m)) := by
  refine ⟨by rw [List.length_set]; exact h.len, fun i => ?_⟩
  by_cases e : i = at_ ∧ i < b.length
  · obtain ⟨rfl, hi⟩ := e
    rw [List.getD_eq_getElem?_getD, List.getElem?_set_self hi, Option.getD_some, kidsS_bare]
  · rw [List.getD_eq_getElem?_getD, List.getElem?_set]
    rw [← h.shape i, List.getD_eq_getElem?_getD (l := b)]
    by_cases e2 : at_ = i
    · subst e2
      rw [if_pos rfl]
      rw [if_neg (by omega), List.getElem?_eq_none (by omega)]
    · rw [if_neg e2]
theorem kidsR_same {rec : RS → Nat → List ByteArray → RS} (hr : ∀ s c bs, Same s.1 (rec s c bs).1) : ∀ (l : List (Int × List ByteArray)) (s : RS) (bd : List ByteArray), Same s.1 (kidsR rec s l bd).1
  | [], s, bd => Same.refl _
  | (c, bs) :: l, s, bd => (hr s c.toNat (bd ++ bs)).trans (kidsR_same hr l _ bd)
theorem walkR_same (ops : List ByteArray) : ∀ (f : Nat) (s : RS) (at_ : Nat) (bd : List ByteArray), Same s.1 (walkR ops f s at_ bd).1
  | 0, s, at_, bd => Same.refl _
  | f + 1, s, at_, bd => by
    unfold walkR
    have h := kidsR_same (fun s c bs => walkR_same ops f s c bs) (kidsS (s.1.getD at_ nd0)) (startR s (meanR ops bd (s.1.getD at_ nd0)) (s.1.getD at_ nd0).p) bd
    rw [startR_fst] at h
    exact same_set h at_ _
end Go.Proofs.YtfajbkpeioejoaaGreatDoor

/- The reference's scoper in memory: fail, with, op. -/
namespace Go.Proofs.YtfajbkpeioejoaaGreatDoor
open Go.RowKit
set_option linter.unusedVariables false
set_option linter.unusedSimpArgs false

/-- the scoper in memory, its nodes and its operations. -/
structure SkW (N G : Nat) (ao : Option Addr) (no co cp : Nat) (os : List Or) (w : World) (s : RS) : Prop where
  o : w.cell? ⟨G, 0, none⟩ = some (.slice ao no co)
  r : w.cell? ⟨G, 1, none⟩ = some (.slice (some ⟨N, 0, none⟩) s.1.length cp)
  c : w.cell? ⟨G, 2, none⟩ = some (.int .i64 s.2.1)
  p : w.cell? ⟨G, 3, none⟩ = some (.int .i64 s.2.2)
  gl : G < w.heap.size
  fg : ∀ o, w.frozen? ⟨G, o, none⟩ = false
  nd : NdSl w N 0 s.1
  nl : N < w.heap.size
  fz : ∀ o, w.frozen? ⟨N, o, none⟩ = false
  op : OArg w ao no os
theorem OArg.bar2 {S : Nat → Prop} {w w' : World} {a : Option Addr} {n : Nat} {ts : List Or} (h : OArg w a n ts) (hb : Bar S w w') (hn : ts ≠ [] → ∀ b off, a = some ⟨b, off, none⟩ → ¬ S b) : OArg w' a n ts := by
  by_cases h0 : ts = []
  · exact ⟨h.1, .inl h0⟩
  · exact h.bar hb (hn h0)
theorem StArg.bar2 {S : Nat → Prop} {w w' : World} {a : Option Addr} {n : Nat} {l : List ByteArray} (h : StArg w a n l) (hb : Bar S w w') (hn : l ≠ [] → ∀ b off, a = some ⟨b, off, none⟩ → ¬ S b) : StArg w' a n l := by
  by_cases h0 : l = []
  · exact ⟨h.1, .inl h0⟩
  · exact h.bar hb (hn h0)
theorem OArg.lt {w : World} {a : Option Addr} {n : Nat} {ts : List Or} (h : OArg w a n ts) (h0 : ts ≠ []) : ∀ b off, a = some ⟨b, off, none⟩ → b < w.heap.size := by
  rcases h.2 with h1 | ⟨b, off, h1, _, h2⟩
  · exact absurd h1 h0
  · intro b' off' e; rw [h1] at e; injection e with e; injection e with e _ _; omega
theorem StArg.lt {w : World} {a : Option Addr} {n : Nat} {ts : List ByteArray} (h : StArg w a n ts) (h0 : ts ≠ []) : ∀ b off, a = some ⟨b, off, none⟩ → b < w.heap.size := by
  rcases h.2 with h1 | ⟨b, off, h1, _, h2⟩
  · exact absurd h1 h0
  · intro b' off' e; rw [h1] at e; injection e with e; injection e with e _ _; omega
theorem ownS_env {B : Nat} {w : World} {v : Value} {l : List ByteArray} (h : OwnS B w v l) : ∃ a c, v = .slice a l.length c ∧ StArg w a l.length l ∧ (a = none → c = 0) ∧ ∀ b off, a = some ⟨b, off, none⟩ → B ≤ b := by
  have hh := h
  rcases h.2 with ⟨rfl, h0⟩ | ⟨g, cap, cur, rfl, hB, _⟩
  · refine ⟨none, 0, by rw [h0], ⟨rfl, .inl (List.eq_nil_of_length_eq_zero h0)⟩, fun _ => rfl, fun b off e => by cases e⟩
  · exact ⟨_, cap, rfl, OwnS.arg hh, (fun e => by cases e), fun b off e => by injection e with e; injection e with e _ _; omega⟩
theorem SkW.bar {S : Nat → Prop} {N G : Nat} {ao : Option Addr} {no co cp : Nat} {os : List Or} {w w' : World} {s : RS} (h : SkW N G ao no co cp os w s) (hb : Bar S w w') (hN : ¬ S N) (hG : ¬ S G) (hA : os ≠ [] → ∀ b off, ao = some ⟨b, off, none⟩ → ¬ S b) : SkW N G ao no co cp os w' s :=
  ⟨hb.cell h.o hG, hb.cell h.r hG, hb.cell h.c hG, hb.cell h.p hG, by have := hb.size; have := h.gl; omega, fun o => by rw [hb.frozen (a := ⟨G, o, none⟩) h.gl hG]; exact h.fg o, h.nd.bar hb hN, by have := hb.size; have := h.nl; omega, fun o => by rw [hb.frozen (a := ⟨N, o, none⟩) h.nl hN]; exact h.fz o, h.op.bar2 hb hA⟩
theorem SkW.below {N G : Nat} {ao : Option Addr} {no co cp : Nat} {os : List Or} {w w' : World} {s : RS} (h : SkW N G ao no co cp os w s) (hb : Below w.heap.size w w') : SkW N G ao no co cp os w' s :=
  h.bar (Bar.of_below (S := fun _ => False) hb) id id (fun _ _ _ _ => id)
/-- where things lie. -/
def Apart (N G : Nat) (ao : Option Addr) (os : List Or) : Prop := N ≠ G ∧ (os ≠ [] → ∀ b off, ao = some ⟨b, off, none⟩ → b ≠ G ∧ b ≠ N)
/-- an error put down. -/
theorem SkW.err {N G : Nat} {ao : Option Addr} {no co cp : Nat} {os : List Or} {w : World} {s : RS} (h : SkW N G ao no co cp os w s) (hA : Apart N G ao os) (c p : Int) :
    SkW N G ao no co cp os ((w.setCell ⟨G, 2, none⟩ (.int .i64 c)).setCell ⟨G, 3, none⟩ (.int .i64 p)) (s.1, c, p) ∧ Bar (fun k => k = G) w ((w.setCell ⟨G, 2, none⟩ (.int .i64 c)).setCell ⟨G, 3, none⟩ (.int .i64 p)) := by
  have ne : ∀ a b : Nat, a ≠ b → (⟨G, a, none⟩ : Addr) ≠ ⟨G, b, none⟩ := fun a b hab e => by injection e with _ e2 _; exact hab e2
  have hb : Bar (fun k => k = G) w ((w.setCell ⟨G, 2, none⟩ (.int .i64 c)).setCell ⟨G, 3, none⟩ (.int .i64 p)) := (Bar.set (S := fun k => k = G) ⟨G, 2, none⟩ _ rfl).trans (Bar.set (S := fun k => k = G) ⟨G, 3, none⟩ _ rfl) fun _ _ h => h
  refine ⟨⟨setO (setO h.o (ne _ _ (by decide))) (ne _ _ (by decide)), setO (setO h.r (ne _ _ (by decide))) (ne _ _ (by decide)), setO (setS h.c) (ne _ _ (by decide)), setS (setO h.p (ne _ _ (by decide))), by simpa using h.gl, fun o => by simp only [World.frozen?_setCell]; exact h.fg o, h.nd.bar hb hA.1, by simpa using h.nl, fun o => by simp only [World.frozen?_setCell]; exact h.fz o, h.op.bar2 hb (fun h0 b off e => (hA.2 h0 b off e).1)⟩, hb⟩
def FlPost (N G : Nat) (ao : Option Addr) (no co cp : Nat) (os : List Or) (s : RS) (w : World) (w' : World) : Prop := SkW N G ao no co cp os w' s ∧ Bar (fun k => k = G) w w'
set_option maxRecDepth 100000 in
set_option maxHeartbeats 1000000 in
theorem fail_any (N G : Nat) (ao : Option Addr) (no co cp : Nat) (os : List Or) (s : RS) (c p : Int) (w : World) (h : Hid (SkW N G ao no co cp os w s)) (hA : Hid (Apart N G ao os)) :
    Calls Tryz.prog 48 #[.pointer (some ⟨G, 0, none⟩), .int .i64 c, .int .i64 p] w fun e w' => e = .returned (.tuple #[]) ∧ FlPost N G ao no co cp os (failR s c p) w w' := by
  have hc := h.out.c
  have hp := h.out.p
  have hf := h.out.fg
  have hgl := h.out.gl
  go_enter Tryz.func48, Tryz.ntmps48
  by_cases h0 : s.2.1 = 0
  · have hr : Hid (failR s c p = (s.1, c, p)) := Lib.hid (by unfold failR; rw [if_pos h0])
    have hb0 : (s.2.1 == 0) = true := beq_iff_eq.2 h0
    have hh := Lib.hid h0
    clear h0
    go_wp2_with fail
    go_end0
    rw [hr.out]
    exact ⟨rfl, h.out.err hA.out c p⟩
  · have hr : Hid (failR s c p = s) := Lib.hid (by unfold failR; rw [if_neg h0])
    have hb0 : (s.2.1 == 0) = false := beq_eq_false_iff_ne.2 h0
    clear h0
    go_wp2_with fail
    go_end0
    rw [hr.out]
    exact ⟨rfl, h.out, Bar.refl _ _⟩
theorem bar_bel {S : Nat → Prop} {w W W' : World} (h : Below w.heap.size w W) (hb : Bar S W W') (hs : ∀ k, S k → w.heap.size ≤ k) : Below w.heap.size w W' :=
  ⟨hb.os.trans h.os, hb.tape.trans h.tape, hb.output.trans h.output, Nat.le_trans h.size hb.size, fun k hk => (hb.block k (by have := h.size; omega) (fun e => by have := hs k e; omega)).trans (h.block k hk)⟩
theorem ownS_fresh (w : World) : OwnS w.heap.size (w.alloc (.cells #[] 9)) (.slice (some ⟨w.heap.size, 0, none⟩) 0 0) [] :=
  ⟨rfl, .inr ⟨w.heap.size, 0, #[], rfl, Nat.le_refl _, by show (w.heap.push _)[w.heap.size]? = _; simp, Nat.le_refl _, by decide, rfl, rfl⟩⟩
set_option maxRecDepth 100000 in
set_option maxHeartbeats 1000000 in
theorem with_any (a a2 : Option Addr) (n c n2 c2 : Nat) (bd ys : List ByteArray) (w : World) (h : Hid (StArg w a n bd)) (hn : a = none → c = 0) (h2 : Hid (StArg w a2 n2 ys)) (hn2 : a2 = none → c2 = 0) (hl : bd.length + ys.length ≤ 1000000) :
    Calls Tryz.prog 49 #[.slice a n c, .slice a2 n2 c2] w fun e w' => ∃ v, e = .returned v ∧ OwnS w.heap.size w' v (bd ++ ys) ∧ Below w.heap.size w w' := by
  have h0 := Lib.hid (ownS_fresh w)
  have hA := Lib.hid (h.out.below (below_alc w (.cells #[] 9)))
  have hA2 := Lib.hid (h2.out.below (below_alc w (.cells #[] 9)))
  have hB := Lib.hid (below_alc w (.cells #[] 9))
  have hs := hB.out.size
  go_enter Tryz.func49, Tryz.ntmps49
  go_upto_region 2 with (at_builtin; refine op_st rfl (.tmp 6) (.tmp 7) (w.alloc (.cells #[] 9)) w.heap.size hs _ [] rfl rfl a n c bd rfl hA.out hn h0.out (by simp; omega) ?_; intro v1 w1 hv1 _ hbar1 _ hob1)
  have hb1 : Below w.heap.size w w1 := bar_bel hB.out hbar1 (fun k e => by have e : some w.heap.size = some k := e; injection e with e; omega)
  rw [List.nil_append] at hv1
  have hv1 := Lib.hid hv1
  have hA1 := Lib.hid (h2.out.below hb1)
  have hB1 := Lib.hid hb1
  have hs1 := hb1.size
  clear hbar1 hb1 hA hA2 h0 hob1
  go_upto_region 3 with (at_builtin; refine op_st rfl (.tmp 9) (.tmp 10) w1 w.heap.size hs1 _ bd rfl rfl a2 n2 c2 ys rfl hA1.out hn2 hv1.out hl ?_; intro v2 w2 hv2 _ hbar2 _ hob2)
  have hb2 := Lib.hid (bar_bel hB1.out hbar2 (fun k e => (own_lt hv1.out k e).1))
  have hv2 := Lib.hid hv2
  clear hbar2 hob2
  go_wp2_with fail
  go_ret
  exact ⟨_, rfl, hv2.out, hb2.out⟩
def placeR (os : List Or) (nm : ByteArray) : Int × Int := match placeI (opN os) nm with
  | some i => (i, 0)
  | none => (0, 602)
theorem placeR_at {os : List Or} {nm : ByteArray} {j : Nat} (hj : j < os.length) (h1 : ∀ i, i < j → eqS (os.getD i or0).nm nm = false) (h2 : eqS (os.getD j or0).nm nm = true) : placeR os nm = ((j : Int), 0) := by
  have e : placeI (opN os) nm = some j := by
    unfold placeI opN
    rw [List.findIdx?_map, List.findIdx?_eq_some_iff_getElem]
    refine ⟨hj, ?_, fun i hi => ?_⟩
    · have := h2; rw [List.getD_eq_getElem?_getD, List.getElem?_eq_getElem hj] at this; exact this
    · have := h1 i hi; rw [List.getD_eq_getElem?_getD, List.getElem?_eq_getElem (by omega)] at this
      have this : eqS os[i].nm nm = false := this
      simp only [Function.comp]; rw [this]; simp
  unfold placeR; rw [e]
theorem placeR_no {os : List Or} {nm : ByteArray} (h1 : ∀ i, i < os.length → eqS (os.getD i or0).nm nm = false) : placeR os nm = (0, 602) := by
  have e : placeI (opN os) nm = none := by
    unfold placeI opN
    rw [List.findIdx?_map, List.findIdx?_eq_none_iff]
    intro t ht
    obtain ⟨i, hi, rfl⟩ := List.mem_iff_getElem.1 ht
    have := h1 i hi
    rw [List.getD_eq_getElem?_getD, List.getElem?_eq_getElem hi] at this
    exact this
  unfold placeR; rw [e]
set_option maxRecDepth 100000 in
set_option maxHeartbeats 2000000 in
theorem op_any (N G : Nat) (ao : Option Addr) (no co cp : Nat) (os : List Or) (s : RS) (nm : ByteArray) (p : Int) (w : World) (h : Hid (SkW N G ao no co cp os w s)) (hA : Hid (Apart N G ao os)) (hl : no ≤ 1000000) :
    Calls Tryz.prog 50 #[.pointer (some ⟨G, 0, none⟩), .string nm, .int .i64 p] w fun e w' => e = .returned (.int .i64 (placeR os nm).1) ∧ FlPost N G ao no co cp os (startR s (placeR os nm) p) w w' := by
  obtain rfl : no = os.length := h.out.op.1
  have ho := h.out.o
  have hgl := h.out.gl
  obtain ⟨r, hr⟩ : ∃ r, placeR os nm = r := ⟨_, rfl⟩
  have kF := Lib.hid (fail_any N G ao os.length co cp os s 602 p w h hA)
  have hyes := Lib.hid fun (j : Nat) (hj : j < os.length) h1 h2 => (placeR_at (os := os) (nm := nm) hj h1 h2).symm.trans hr
  have hno := Lib.hid fun h1 => (placeR_no (os := os) (nm := nm) h1).symm.trans hr
  rw [hr]
  clear hr
  go_enter Tryz.func50, Tryz.ntmps50
  go_wp2_with fail
  go_loopw [7] (fun iv wr => ∃ j : Nat, j ≤ os.length ∧ iv = .int .i64 j ∧ wr = w ∧ Hid (∀ i, i < j → eqS (os.getD i or0).nm nm = false)) (fun iv _ => os.length - (intOf iv).toNat)
  case atStart => exact ⟨0, by omega, rfl, rfl, Lib.hid fun i hi => by omega⟩
  case round =>
    obtain ⟨j, hj, rfl, rfl, hI⟩ := hrel
    by_cases hlt : j < os.length
    · rcases h.out.op.2 with h0 | ⟨b, off, rfl, hs, hbl⟩
      · rw [h0] at hlt; simp at hlt
      obtain ⟨e0, _, _⟩ := hs j hlt
      have hy := Lib.hid (hyes.out j hlt hI.out)
      obtain ⟨q, hq⟩ : ∃ q, eqS (os.getD j or0).nm nm = q := ⟨_, rfl⟩
      have hn : Hid (q = false → ∀ i, i < j + 1 → eqS (os.getD i or0).nm nm = false) := Lib.hid fun e i hi => by
        by_cases hij : i = j
        · subst hij; rw [hq, e]
        · exact hI.out i (by omega)
      rw [hq] at hy
      unfold eqS at hq
      generalize (os.getD j or0).nm = u at e0 hq
      have hji : (j : Int) < (os.length : Int) := by omega
      have hj0 : (0 : Int) ≤ (j : Int) := by omega
      clear hs
      cases q
      · clear hy
        go_wp2_with fail
        go_roundw
        case rel => exact ⟨j + 1, by omega, by go_num, by first | rfl | trivial, Lib.hid (hn.out (by first | rfl | trivial))⟩
        case measure => simp [intOf]; omega
      · have hz := Lib.hid (hy.out (by first | rfl | trivial))
        clear hn hy
        go_wp2_with fail
        go_ret
        rw [← hz.out]
        exact ⟨rfl, h.out, Bar.refl _ _⟩
    · obtain rfl : j = os.length := by omega
      have hy := Lib.hid (hno.out hI.out)
      go_wp2_with fail
      refine kF.out.mono ?_
      rintro e w1 ⟨rfl, hp⟩
      have hp := Lib.hid hp
      go_wp2_with fail
      go_ret
      rw [← hy.out]
      exact ⟨rfl, hp.out⟩
end Go.Proofs.YtfajbkpeioejoaaGreatDoor

/- The reference's walk over names. -/
namespace Go.Proofs.YtfajbkpeioejoaaGreatDoor
open Go.RowKit
set_option linter.unusedVariables false
set_option linter.unusedSimpArgs false

theorem nd10_num {W : World} {g : Nat} {t : Nd} {m0 : Int} (h : Nd10 W g (bare t m0)) (m : Int) : Nd10 (W.setCell ⟨g, 4, none⟩ (.int .i64 m)) g (bare t m) ∧ Bar (fun k => k = g) W (W.setCell ⟨g, 4, none⟩ (.int .i64 m)) := by
  obtain ⟨hl, h0, h1, h2, h3, h4, h5, h6, h7, h8, h9, hf⟩ := h
  have ne : ∀ a b : Nat, a ≠ b → (⟨g, a, none⟩ : Addr) ≠ ⟨g, b, none⟩ := fun a b hab e => by injection e with _ e2 _; exact hab e2
  exact ⟨⟨by simpa using hl, setO h0 (ne _ _ (by decide)), setO h1 (ne _ _ (by decide)), setO h2 (ne _ _ (by decide)), setO h3 (ne _ _ (by decide)), setS h4, setO h5 (ne _ _ (by decide)), setO h6 (ne _ _ (by decide)), setO h7 (ne _ _ (by decide)), setO h8 (ne _ _ (by decide)), setO h9 (ne _ _ (by decide)), fun o => by simp only [World.frozen?_setCell]; exact hf o⟩, Bar.set ⟨g, 4, none⟩ _ rfl⟩
def NG (N G : Nat) (k : Nat) : Prop := k = N ∨ k = G
/-- a node written over. -/
theorem SkW.put {N G : Nat} {ao : Option Addr} {no co cp : Nat} {os : List Or} {w : World} {s : RS} (h : SkW N G ao no co cp os w s) (hA : Apart N G ao os) {i : Nat} (hi : i < s.1.length) (t : Nd) : SkW N G ao no co cp os (st10 w N (i * 10) t) (s.1.set i t, s.2) ∧ Bar (NG N G) w (st10 w N (i * 10) t) := by
  obtain ⟨r1, r2, r3⟩ := st10_rest w N (i * 10) t
  have hg : ¬ G = N := fun e => hA.1 e.symm
  exact ⟨⟨r3.cell h.o hg, by rw [List.length_set]; exact r3.cell h.r hg, r3.cell h.c hg, r3.cell h.p hg, by rw [r2]; exact h.gl, fun o => by rw [r1]; exact h.fg o, st10_sl h.nd hi, by rw [r2]; exact h.nl, fun o => by rw [r1]; exact h.fz o, h.op.bar2 r3 (fun h0 b off e => (hA.2 h0 b off e).2)⟩, r3.mono fun k e => .inl e⟩
/-- behind the switch. -/
def MidK (N G : Nat) (ao : Option Addr) (no co cp : Nat) (os : List Or) (f at_ : Nat) (bd : List ByteArray) (s : RS) (t : Nd) (w W : World) : Prop :=
  ∃ s2 m, walkR (opN os) (f + 1) s at_ bd = (s2.1.set at_ (bare t m), s2.2) ∧ s2.1.length = s.1.length ∧ SkW N G ao no co cp os W s2 ∧ Nd10 W (w.heap.size + 1) (bare t m) ∧ Bar (NG N G) w W
/-- what holds between two children. -/
structure SkL (N G : Nat) (ao : Option Addr) (no co cp : Nat) (os : List Or) (a : Option Addr) (n : Nat) (bd : List ByteArray) (t : Nd) (m : Int) (L : List Nd) (w : World) (s : RS) (W : World) : Prop where
  sk : SkW N G ao no co cp os W s
  x : Nd10 W w.heap.size t
  y : Nd10 W (w.heap.size + 1) (bare t m)
  e : StArg W a n bd
  bar : Bar (NG N G) w W
  sm : Same L s.1
  lN : N < w.heap.size
  lG : G < w.heap.size
  ea : bd ≠ [] → ∀ b off, a = some ⟨b, off, none⟩ → b ≠ N ∧ b ≠ G
theorem SkL.next {N G : Nat} {ao : Option Addr} {no co cp : Nat} {os : List Or} {a : Option Addr} {n : Nat} {bd : List ByteArray} {t : Nd} {m : Int} {L : List Nd} {w W W' : World} {s s' : RS} (h : SkL N G ao no co cp os a n bd t m L w s W) (hb : Bar (NG N G) W W') (hs : SkW N G ao no co cp os W' s') (hm : Same s.1 s'.1) : SkL N G ao no co cp os a n bd t m L w s' W' :=
  ⟨hs, h.x.bar hb (fun e => by have := h.lN; have := h.lG; rcases e with e | e <;> omega), h.y.bar hb (fun e => by have := h.lN; have := h.lG; rcases e with e | e <;> omega), h.e.bar2 hb (fun h0 b off e hs => by have := h.ea h0 b off e; rcases hs with e2 | e2 <;> omega), h.bar.trans hb fun _ _ e => e, h.sm.trans hm, h.lN, h.lG, h.ea⟩
theorem SkL.below {N G : Nat} {ao : Option Addr} {no co cp : Nat} {os : List Or} {a : Option Addr} {n : Nat} {bd : List ByteArray} {t : Nd} {m : Int} {L : List Nd} {w W W' : World} {s : RS} (h : SkL N G ao no co cp os a n bd t m L w s W) (hb : Below W.heap.size W W') : SkL N G ao no co cp os a n bd t m L w s W' :=
  h.next (Bar.of_below hb) (h.sk.below hb) (Same.refl _)
/-- a number put down. -/
theorem SkL.num {N G : Nat} {ao : Option Addr} {no co cp : Nat} {os : List Or} {a : Option Addr} {n : Nat} {bd : List ByteArray} {t : Nd} {m : Int} {L : List Nd} {w W : World} {s : RS} (h : SkL N G ao no co cp os a n bd t m L w s W) (he : bd ≠ [] → ∀ b off, a = some ⟨b, off, none⟩ → b < w.heap.size) (ha : os ≠ [] → ∀ b off, ao = some ⟨b, off, none⟩ → b < w.heap.size) (m' : Int) :
    SkL N G ao no co cp os a n bd t m' L w s (W.setCell ⟨w.heap.size + 1, 4, none⟩ (.int .i64 m')) := by
  obtain ⟨h1, h2⟩ := nd10_num h.y m'
  have hN := h.lN
  have hG := h.lG
  refine ⟨h.sk.bar h2 (by omega) (by omega) (fun h0 b off e => by have := ha h0 b off e; omega), h.x.bar h2 (by omega), h1, h.e.bar2 h2 (fun h0 b off e => by have := he h0 b off e; omega), h.bar.trans h2 (fun k hk e => False.elim (by omega)), h.sm, h.lN, h.lG, h.ea⟩
/-- what a walk over a part leaves. -/
def WkSpec (N G : Nat) (ao : Option Addr) (no co cp : Nat) (os : List Or) (f : Nat) : Prop := ∀ (at_ : Nat) (bd : List ByteArray) (a : Option Addr) (n c : Nat) (s : RS) (w : World), at_ < f → at_ < s.1.length → s.1.length ≤ 100000 → Downs s.1 → bd.length + 2 * at_ ≤ 1000000 → Hid (SkW N G ao no co cp os w s) → Hid (StArg w a n bd) → (a = none → c = 0) → Hid (bd ≠ [] → ∀ b off, a = some ⟨b, off, none⟩ → b ≠ N ∧ b ≠ G) →
    Calls Tryz.prog 23 #[.pointer (some ⟨G, 0, none⟩), .int .i64 at_, .slice a n c] w fun e w' => e = .returned (.tuple #[]) ∧ SkW N G ao no co cp os w' (walkR (opN os) f s at_ bd) ∧ Bar (NG N G) w w'
end Go.Proofs.YtfajbkpeioejoaaGreatDoor
