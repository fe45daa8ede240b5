/- The program's parser: may an atom begin here? -/
import Derived.Test.YtnhfbbognjdnpaaGreatDoorPqH
/- The program's parser: may an atom begin here? -/
namespace Go.Proofs.YtnhfbbognjdnpaaGreatDoor
open Go.RowKit
set_option linter.unusedVariables false
set_option linter.unusedSimpArgs false

def startsX (ts : List Tk) (R : Except PE PS) : Bool := match R with
  | .ok st => startsP ts st.i
  | .error _ => false
theorem start_eq (ts : List Tk) (en : Int) (R : Except PE PS) : startsX ts R = ((peekX ts en R).kind == 0 || (peekX ts en R).kind == 1 || isX ts R kwTrue || isX ts R kwFalse || isX ts R sgOpen || isX ts R kwHandle) := by
  cases R with
  | error e => rfl
  | ok st =>
    show startsP ts st.i = (_ || _ || isP ts st.i kwTrue || isP ts st.i kwFalse || isP ts st.i sgOpen || isP ts st.i kwHandle)
    rw [peek_ok]
    unfold startsP
    cases hg : ts[st.i]? with
    | some t => rfl
    | none =>
      have e : ∀ u, isP ts st.i u = false := fun u => by unfold isP; rw [hg]
      simp only [e]; rfl
set_option maxRecDepth 100000 in
set_option maxHeartbeats 2000000 in
theorem isAtom_any (B G : Nat) (tv : Value) (ts : List Tk) (en : Int) (ov : Value) (d : Int) (w : World) (nv : Value) (R : Except PE PS) (h : Hid (PqX B G tv ts en ov d w nv R)) :
    Calls Tryz.prog 91 #[.pointer (some ⟨G, 0, none⟩)] w fun e w' => e = .returned (.bool (startsX ts R)) ∧ Below w.heap.size w w' := by
  have k := Lib.hid (peek_any B G tv ts en ov d w nv R h)
  rw [start_eq ts en R]
  have k1 := Lib.hid fun (W : World) (hb : Below w.heap.size w W) => is_any B G tv ts en ov d W nv R kwTrue (Lib.hid (h.out.below hb))
  have k2 := Lib.hid fun (W : World) (hb : Below w.heap.size w W) => is_any B G tv ts en ov d W nv R kwFalse (Lib.hid (h.out.below hb))
  have k3 := Lib.hid fun (W : World) (hb : Below w.heap.size w W) => is_any B G tv ts en ov d W nv R sgOpen (Lib.hid (h.out.below hb))
  have k4 := Lib.hid fun (W : World) (hb : Below w.heap.size w W) => is_any B G tv ts en ov d W nv R kwHandle (Lib.hid (h.out.below hb))
  generalize isX ts R kwTrue = q1 at k1 ⊢
  generalize isX ts R kwFalse = q2 at k2 ⊢
  generalize isX ts R sgOpen = q3 at k3 ⊢
  generalize isX ts R kwHandle = q4 at k4 ⊢
  generalize peekX ts en R = t at k ⊢
  unfold tkV at k
  obtain ⟨tk, tx, tn, ta⟩ := t
  dsimp only at k ⊢
  have f0 := tkf0
  go_enter Tryz.func91, Tryz.ntmps91
  go_wp2_with fail
  refine k.out.mono ?_
  rintro e w1 ⟨rfl, hb⟩
  have hb := Lib.hid hb
  clear k
  by_cases h0 : tk = 0
  · subst h0
    go_wp2_with fail
    go_ret
    exact ⟨by simp, hb.out⟩
  by_cases h1 : tk = 1
  · subst h1
    clear h0
    go_wp2_with fail
    go_ret
    exact ⟨by simp, hb.out⟩
  have e0 : (tk == 0) = false := beq_eq_false_iff_ne.2 h0
  have e1 : (tk == 1) = false := beq_eq_false_iff_ne.2 h1
  clear h0 h1
  go_wp2_with fail
  refine (k1.out w1 hb.out).mono ?_
  rintro e w2 ⟨rfl, hb2⟩
  have hb2 := Lib.hid (belT hb.out hb2)
  cases q1
  · go_wp2_with fail
    refine (k2.out w2 hb2.out).mono ?_
    rintro e w3 ⟨rfl, hb3⟩
    have hb3 := Lib.hid (belT hb2.out hb3)
    cases q2
    · go_wp2_with fail
      refine (k3.out w3 hb3.out).mono ?_
      rintro e w4 ⟨rfl, hb4⟩
      have hb4 := Lib.hid (belT hb3.out hb4)
      cases q3
      · go_wp2_with fail
        refine (k4.out w4 hb4.out).mono ?_
        rintro e w5 ⟨rfl, hb5⟩
        have hb5 := Lib.hid (belT hb4.out hb5)
        go_wp2_with fail
        go_ret
        exact ⟨by rw [e0, e1]; rfl, hb5.out⟩
      · go_wp2_with fail
        go_ret
        exact ⟨by rw [e0, e1]; rfl, hb4.out⟩
    · go_wp2_with fail
      go_ret
      exact ⟨by rw [e0, e1]; rfl, hb3.out⟩
  · go_wp2_with fail
    go_ret
    exact ⟨by rw [e0, e1]; rfl, hb2.out⟩
end Go.Proofs.YtnhfbbognjdnpaaGreatDoor

/- The program's parser: an atom, plain. -/
namespace Go.Proofs.YtnhfbbognjdnpaaGreatDoor
open Go.RowKit
set_option linter.unusedVariables false
set_option linter.unusedSimpArgs false

section
variable {ts : List Tk} {en : Int} {e : PS → Except PE (Nat × PS)} {R : Except PE PS}
theorem at_some {st : PS} {t : Tk} (hg : ts[st.i]? = some t) : (Except.ok st >>= atomP ts en e) = (if t.kind = 0 then putP ts en ⟨0, 0, 0, 0, 0, bs t.text, ba0, ba0, ba0, t.at_⟩ ⟨st.i + 1, st.ns⟩
    else if t.kind = 1 then putP ts en ⟨1, 0, 0, 0, t.num, ba0, ba0, ba0, ba0, t.at_⟩ ⟨st.i + 1, st.ns⟩
    else if isP ts st.i kwTrue then putP ts en ⟨2, 0, 0, 0, 1, ba0, ba0, ba0, ba0, t.at_⟩ ⟨st.i + 1, st.ns⟩
    else if isP ts st.i kwFalse then putP ts en ⟨2, 0, 0, 0, 0, ba0, ba0, ba0, ba0, t.at_⟩ ⟨st.i + 1, st.ns⟩
    else if isP ts st.i sgOpen then (do
      let (a, st) ← e ⟨st.i + 1, st.ns⟩
      let st ← wantP ts en sgShut st
      .ok (a, st))
    else if isP ts st.i kwHandle then handleP ts en e t.at_ ⟨st.i + 1, st.ns⟩
    else .error (403, hereP ts en st.i)) := by
  show atomP ts en e st = _
  unfold atomP
  rw [hg]
theorem at_peek {t : Tk} (hp : peekX ts en R = t) (hk : t.kind ≠ -1) : ∃ st, R = .ok st ∧ ts[st.i]? = some t := by
  cases R with
  | error e => exact absurd (hp ▸ rfl) hk
  | ok st =>
    rw [peek_ok] at hp
    cases hg : ts[st.i]? with
    | none => rw [hg] at hp; exact absurd (hp ▸ rfl) hk
    | some u => rw [hg] at hp; exact ⟨st, rfl, by rw [hg]; exact congrArg some hp⟩
theorem at_is {t : Tk} {u : List UInt8} (hp : peekX ts en R = t) (hu : isX ts R u = true) : ∃ st, R = .ok st ∧ ts[st.i]? = some t ∧ isP ts st.i u = true ∧ takeX ts R u = .ok ⟨st.i + 1, st.ns⟩ := by
  obtain ⟨st, rfl, hi, hx⟩ := isX_ok hu
  rw [peek_ok, List.getElem?_eq_getElem hi] at hp
  exact ⟨st, rfl, by rw [List.getElem?_eq_getElem hi]; exact congrArg some hp, hu, hx⟩
theorem at0 {t : Tk} (hp : peekX ts en R = t) (hk : t.kind = 0) : ∃ st, R = .ok st ∧ st.i < ts.length ∧ (R >>= atomP ts en e) = putP ts en ⟨0, 0, 0, 0, 0, bs t.text, ⟨#[]⟩, ⟨#[]⟩, ⟨#[]⟩, t.at_⟩ ⟨st.i + 1, st.ns⟩ := by
  obtain ⟨st, rfl, hg⟩ := at_peek hp (by rw [hk]; decide)
  exact ⟨st, rfl, (List.getElem?_eq_some_iff.1 hg).1, by rw [at_some hg, if_pos hk]; rfl⟩
theorem at1 {t : Tk} (hp : peekX ts en R = t) (hk : t.kind = 1) : ∃ st, R = .ok st ∧ st.i < ts.length ∧ (R >>= atomP ts en e) = putP ts en ⟨1, 0, 0, 0, t.num, ⟨#[]⟩, ⟨#[]⟩, ⟨#[]⟩, ⟨#[]⟩, t.at_⟩ ⟨st.i + 1, st.ns⟩ := by
  obtain ⟨st, rfl, hg⟩ := at_peek hp (by rw [hk]; decide)
  exact ⟨st, rfl, (List.getElem?_eq_some_iff.1 hg).1, by rw [at_some hg, if_neg (by rw [hk]; decide), if_pos hk]; rfl⟩
theorem at2 {t : Tk} (hp : peekX ts en R = t) (h0 : t.kind ≠ 0) (h1 : t.kind ≠ 1) (h2 : isX ts R kwTrue = true) : (R >>= atomP ts en e) = (takeX ts R kwTrue >>= putP ts en ⟨2, 0, 0, 0, 1, ⟨#[]⟩, ⟨#[]⟩, ⟨#[]⟩, ⟨#[]⟩, t.at_⟩) := by
  obtain ⟨st, rfl, hg, hu, hx⟩ := at_is hp h2
  rw [hx, at_some hg, if_neg h0, if_neg h1, if_pos hu]; rfl
theorem at3 {t : Tk} (hp : peekX ts en R = t) (h0 : t.kind ≠ 0) (h1 : t.kind ≠ 1) (h2 : isX ts R kwTrue = false) (h3 : isX ts R kwFalse = true) : (R >>= atomP ts en e) = (takeX ts R kwFalse >>= putP ts en ⟨2, 0, 0, 0, 0, ⟨#[]⟩, ⟨#[]⟩, ⟨#[]⟩, ⟨#[]⟩, t.at_⟩) := by
  obtain ⟨st, rfl, hg, hu, hx⟩ := at_is hp h3
  have h2 : isP ts st.i kwTrue = false := h2
  rw [hx, at_some hg, if_neg h0, if_neg h1, if_neg (by rw [h2]; decide), if_pos hu]; rfl
theorem at4 {t : Tk} (hp : peekX ts en R = t) (h0 : t.kind ≠ 0) (h1 : t.kind ≠ 1) (h2 : isX ts R kwTrue = false) (h3 : isX ts R kwFalse = false) (h4 : isX ts R sgOpen = true) : (R >>= atomP ts en e) = ((takeX ts R sgOpen >>= e) >>= fun p => wantP ts en sgShut p.2 >>= fun s => .ok (p.1, s)) := by
  obtain ⟨st, rfl, hg, hu, hx⟩ := at_is hp h4
  have h2 : isP ts st.i kwTrue = false := h2
  have h3 : isP ts st.i kwFalse = false := h3
  rw [hx, at_some hg, if_neg h0, if_neg h1, if_neg (by rw [h2]; decide), if_neg (by rw [h3]; decide), if_pos hu]; rfl
theorem at5 {t : Tk} (hp : peekX ts en R = t) (h0 : t.kind ≠ 0) (h1 : t.kind ≠ 1) (h2 : isX ts R kwTrue = false) (h3 : isX ts R kwFalse = false) (h4 : isX ts R sgOpen = false) (h5 : isX ts R kwHandle = true) : (R >>= atomP ts en e) = (takeX ts R kwHandle >>= handleP ts en e t.at_) := by
  obtain ⟨st, rfl, hg, hu, hx⟩ := at_is hp h5
  have h2 : isP ts st.i kwTrue = false := h2
  have h3 : isP ts st.i kwFalse = false := h3
  have h4 : isP ts st.i sgOpen = false := h4
  rw [hx, at_some hg, if_neg h0, if_neg h1, if_neg (by rw [h2]; decide), if_neg (by rw [h3]; decide), if_neg (by rw [h4]; decide), if_pos hu]; rfl
theorem at6 {t : Tk} (hp : peekX ts en R = t) (h0 : t.kind ≠ 0) (h1 : t.kind ≠ 1) (h2 : isX ts R kwTrue = false) (h3 : isX ts R kwFalse = false) (h4 : isX ts R sgOpen = false) (h5 : isX ts R kwHandle = false) : stX (R >>= atomP ts en e) = failX ts en R 403 ∧ ∀ x st', (R >>= atomP ts en e) ≠ .ok (x, st') := by
  cases R with
  | error e => exact ⟨rfl, fun x st' hc => by cases hc⟩
  | ok st =>
    have h2 : isP ts st.i kwTrue = false := h2
    have h3 : isP ts st.i kwFalse = false := h3
    have h4 : isP ts st.i sgOpen = false := h4
    have h5 : isP ts st.i kwHandle = false := h5
    have k : (Except.ok st >>= atomP ts en e) = .error (403, hereP ts en st.i) := by
      cases hg : ts[st.i]? with
      | none => show atomP ts en e st = _; unfold atomP; rw [hg]
      | some u =>
        have hu : u = t := by rw [peek_ok, hg] at hp; exact hp
        subst hu
        rw [at_some hg, if_neg h0, if_neg h1, if_neg (by rw [h2]; decide), if_neg (by rw [h3]; decide), if_neg (by rw [h4]; decide), if_neg (by rw [h5]; decide)]
    rw [k]
    exact ⟨rfl, fun x st' hc => by cases hc⟩
theorem shut_st {R' : Except PE (Nat × PS)} : stX (R' >>= fun p => wantP ts en sgShut p.2 >>= fun s => (Except.ok (p.1, s) : Except PE (Nat × PS))) = (stX R' >>= wantP ts en sgShut) := by
  cases R' with
  | error e => rfl
  | ok p =>
    show stX (wantP ts en sgShut p.2 >>= _) = wantP ts en sgShut p.2
    cases wantP ts en sgShut p.2 <;> rfl
theorem shut_ok {R' : Except PE (Nat × PS)} {x : Nat} {st' : PS} (h : (R' >>= fun p => wantP ts en sgShut p.2 >>= fun s => (Except.ok (p.1, s) : Except PE (Nat × PS))) = .ok (x, st')) : ∃ s, R' = .ok (x, s) := by
  cases R' with
  | error e => cases h
  | ok p =>
    obtain ⟨a, s⟩ := p
    have h' : (wantP ts en sgShut s >>= fun u => (Except.ok (a, u) : Except PE (Nat × PS))) = .ok (x, st') := h
    cases hw : wantP ts en sgShut s with
    | error e => rw [hw] at h'; cases h'
    | ok u =>
      rw [hw] at h'
      have h2 : (Except.ok (a, u) : Except PE (Nat × PS)) = .ok (x, st') := h'
      injection h2 with h2
      injection h2 with h2 _
      exact ⟨s, by rw [h2]⟩
end
end Go.Proofs.YtnhfbbognjdnpaaGreatDoor

/- The program's parser: an atom. -/
namespace Go.Proofs.YtnhfbbognjdnpaaGreatDoor
open Go.RowKit
set_option linter.unusedVariables false
set_option linter.unusedSimpArgs false

/-- a variable of a call that holds a token. -/
structure TkB (G : Nat) (w : World) (g : Nat) (t : Tk) : Prop where
  c0 : w.cell? ⟨g, 0, none⟩ = some (.int .i64 t.kind)
  c1 : w.cell? ⟨g, 1, none⟩ = some (.string (bs t.text))
  c2 : w.cell? ⟨g, 2, none⟩ = some (.int .i64 t.num)
  c3 : w.cell? ⟨g, 3, none⟩ = some (.int .i64 t.at_)
  gb : g ≠ G
  lt : g < w.heap.size
theorem TkB.step {G g : Nat} {w w' : World} {t : Tk} (h : TkB G w g t) (hb : Bar (fun k => k = G) w w') : TkB G w' g t :=
  ⟨hb.cell h.c0 h.gb, hb.cell h.c1 h.gb, hb.cell h.c2 h.gb, hb.cell h.c3 h.gb, h.gb, by have := hb.size; have := h.lt; omega⟩
theorem TkB.new (G : Nat) (w : World) (t : Tk) (hG : G < w.heap.size) : TkB G (w.alloc (.cells #[.int .i64 t.kind, .string (bs t.text), .int .i64 t.num, .int .i64 t.at_] 95)) w.heap.size t := by
  refine ⟨?_, ?_, ?_, ?_, by omega, by simp⟩ <;> (rw [World.cell?_alloc_at _ _ _ _ rfl]; rfl)
set_option maxRecDepth 100000 in
set_option maxHeartbeats 8000000 in
theorem atom_any (B G : Nat) (tv : Value) (ts : List Tk) (en : Int) (ov : Value) (d : Int) (e : PS → Except PE (Nat × PS)) (kE : Hid (ExC B G tv ts en ov 29 d e)) (w : World) (nv : Value) (R : Except PE PS) (h : Hid (PqX B G tv ts en ov d w nv R)) :
    Calls Tryz.prog 92 #[.pointer (some ⟨G, 0, none⟩)] w (PqN B G tv ts en ov d w nv (R >>= atomP ts en e)) := by
  have k := Lib.hid (peek_any B G tv ts en ov d w nv R h)
  obtain ⟨t, hp⟩ : ∃ t, peekX ts en R = t := ⟨_, rfl⟩
  rw [hp] at k
  unfold tkV at k
  obtain ⟨tk, tx, tn, ta⟩ := t
  have hp := Lib.hid hp
  dsimp only at k
  go_enter Tryz.func92, Tryz.ntmps92
  go_wp2_with fail
  refine k.out.mono ?_
  rintro e1 w1 ⟨rfl, hb⟩
  clear k
  have hb1 := Lib.hid hb
  have hlt := Lib.hid (h.out.below hb).lt
  have hx1 := Lib.hid (TkB.new G w1 ⟨tk, tx, tn, ta⟩ (by have := hlt.out.1; have := hlt.out.2.1; omega))
  have hp1 := Lib.hid ((h.out.below hb).below (below_alc w1 (.cells #[.int .i64 tk, .string (bs tx), .int .i64 tn, .int .i64 ta] 95)))
  have hS1 := Lib.hid (show Stp G w nv (w1.alloc (.cells #[.int .i64 tk, .string (bs tx), .int .i64 tn, .int .i64 ta] 95)) nv from (Stp.below hb).next (below_alc w1 (.cells #[.int .i64 tk, .string (bs tx), .int .i64 tn, .int .i64 ta] 95)))
  clear hb
  obtain ⟨W1, hW1⟩ : ∃ W, w1.alloc (.cells #[.int .i64 tk, .string (bs tx), .int .i64 tn, .int .i64 ta] 95) = W := ⟨_, rfl⟩
  rw [hW1] at hx1 hp1 hS1
  go_upto_region 2 with fail
  generalize w1.heap.size = g at hx1 ⊢
  clear hW1 hb1 hlt
  by_cases h0 : tk = 0
  · obtain ⟨st, rfl, hi, hn⟩ := at0 (e := e) hp.out h0
    subst h0
    have hn := Lib.hid hn
    have h2 := Lib.hid (show PqW B G tv ts en ov d W1 nv st .nilIface from hp1.out)
    have h4 := Lib.hid (h2.out.setI (st.i + 1) hi)
    have hi := Lib.hid hi
    have c0 := hx1.out.c0; have c1 := hx1.out.c1; have c2 := hx1.out.c2; have c3 := hx1.out.c3; have cl := hx1.out.lt
    dsimp only at c0 c1 c2 c3
    have cg : ¬ G = g := fun e => hx1.out.gb e.symm
    have h3 := h2.out.i
    have hf := h2.out.fg
    have hgl : G < W1.heap.size := by have := h2.out.gB; have := h2.out.bl; omega
    have hr1 : (st.i : Int) ≤ 1000000 := by have := h2.out.il; have := h2.out.tl; omega
    have hr0 : (0 : Int) ≤ (st.i : Int) := by omega
    have k4 := Lib.hid (node_any B G tv ts en ov d _ nv (.ok ⟨st.i + 1, st.ns⟩) ⟨0, 0, 0, 0, 0, bs tx, ⟨#[]⟩, ⟨#[]⟩, ⟨#[]⟩, ta⟩ (Lib.hid h4.out.1))
    push_cast at k4
    go_wp2_with fail
    refine k4.out.mono ?_
    rintro e4 w4 ⟨v, nv4, rfl, hp4, hs4, hv4⟩
    have hfin : Hid (PqN B G tv ts en ov d w nv (Except.ok st >>= atomP ts en e) (.returned (.int .i64 v)) w4) := Lib.hid (by
      rw [hn.out]
      refine ⟨v, nv4, rfl, hp4, (hS1.out.trans ?_).trans hs4, hv4⟩
      have h5 := Stp.of (nv := nv) h4.out.2
      push_cast at h5
      exact h5)
    clear k4 hp4 hs4 hv4 c0 c1 c2 c3 cl h3 hf hgl
    go_wp2_with fail
    go_ret
    exact hfin.out
  by_cases h1 : tk = 1
  · obtain ⟨st, rfl, hi, hn⟩ := at1 (e := e) hp.out h1
    subst h1
    have hn := Lib.hid hn
    have h2 := Lib.hid (show PqW B G tv ts en ov d W1 nv st .nilIface from hp1.out)
    have h4 := Lib.hid (h2.out.setI (st.i + 1) hi)
    have hi := Lib.hid hi
    have c0 := hx1.out.c0; have c1 := hx1.out.c1; have c2 := hx1.out.c2; have c3 := hx1.out.c3; have cl := hx1.out.lt
    dsimp only at c0 c1 c2 c3
    have cg : ¬ G = g := fun e => hx1.out.gb e.symm
    have h3 := h2.out.i
    have hf := h2.out.fg
    have hgl : G < W1.heap.size := by have := h2.out.gB; have := h2.out.bl; omega
    have hr1 : (st.i : Int) ≤ 1000000 := by have := h2.out.il; have := h2.out.tl; omega
    have hr0 : (0 : Int) ≤ (st.i : Int) := by omega
    have k4 := Lib.hid (node_any B G tv ts en ov d _ nv (.ok ⟨st.i + 1, st.ns⟩) ⟨1, 0, 0, 0, tn, ⟨#[]⟩, ⟨#[]⟩, ⟨#[]⟩, ⟨#[]⟩, ta⟩ (Lib.hid h4.out.1))
    push_cast at k4
    go_wp2_with fail
    refine k4.out.mono ?_
    rintro e4 w4 ⟨v, nv4, rfl, hp4, hs4, hv4⟩
    have hfin : Hid (PqN B G tv ts en ov d w nv (Except.ok st >>= atomP ts en e) (.returned (.int .i64 v)) w4) := Lib.hid (by
      rw [hn.out]
      refine ⟨v, nv4, rfl, hp4, (hS1.out.trans ?_).trans hs4, hv4⟩
      have h5 := Stp.of (nv := nv) h4.out.2
      push_cast at h5
      exact h5)
    clear k4 hp4 hs4 hv4 c0 c1 c2 c3 cl h3 hf hgl
    go_wp2_with fail
    go_ret
    exact hfin.out
  have e0 : (tk == 0) = false := beq_eq_false_iff_ne.2 h0
  have e1 : (tk == 1) = false := beq_eq_false_iff_ne.2 h1
  have h0 := Lib.hid h0
  have h1 := Lib.hid h1
  have c0 := hx1.out.c0; have cl := hx1.out.lt
  dsimp only at c0
  have k2 := Lib.hid (skip_any B G tv ts en ov d _ nv R kwTrue hp1)
  obtain ⟨q1, hq1⟩ : ∃ q, isX ts R kwTrue = q := ⟨_, rfl⟩
  rw [hq1] at k2
  go_wp2_with fail
  refine k2.out.mono ?_
  rintro e2 w2 ⟨rfl, hr2, hb2⟩
  clear k2
  have hx2 := Lib.hid (hx1.out.step hb2)
  have hS2 := Lib.hid (show Stp G w nv w2 nv from hS1.out.trans (Stp.of hb2))
  clear hb2
  clear c0 cl
  have c0 := hx2.out.c0; have c3 := hx2.out.c3; have cl := hx2.out.lt
  dsimp only at c0 c3
  cases q1
  · rw [take_no hq1] at hr2
    have hp2 := Lib.hid hr2
    clear hr2 hS1 hx1 hp1
    have k3 := Lib.hid (skip_any B G tv ts en ov d _ nv R kwFalse hp2)
    obtain ⟨q2, hq2⟩ : ∃ q, isX ts R kwFalse = q := ⟨_, rfl⟩
    rw [hq2] at k3
    go_wp2_with fail
    refine k3.out.mono ?_
    rintro e3 w3 ⟨rfl, hr3, hb3⟩
    clear k3
    have hx3 := Lib.hid (hx2.out.step hb3)
    have hS3 := Lib.hid (show Stp G w nv w3 nv from hS2.out.trans (Stp.of hb3))
    clear hb3
    clear c0 c3 cl
    have c0 := hx3.out.c0; have c3 := hx3.out.c3; have cl := hx3.out.lt
    dsimp only at c0 c3
    cases q2
    · rw [take_no hq2] at hr3
      have hp3 := Lib.hid hr3
      clear hr3 hS2 hx2 hp2
      have k4 := Lib.hid (skip_any B G tv ts en ov d _ nv R sgOpen hp3)
      obtain ⟨q3, hq3⟩ : ∃ q, isX ts R sgOpen = q := ⟨_, rfl⟩
      rw [hq3] at k4
      go_wp2_with fail
      refine k4.out.mono ?_
      rintro e4 w4 ⟨rfl, hr4, hb4⟩
      clear k4
      have hx4 := Lib.hid (hx3.out.step hb4)
      have hS4 := Lib.hid (show Stp G w nv w4 nv from hS3.out.trans (Stp.of hb4))
      clear hb4
      clear c0 c3 cl
      have c0 := hx4.out.c0; have c3 := hx4.out.c3; have cl := hx4.out.lt
      dsimp only at c0 c3
      cases q3
      · rw [take_no hq3] at hr4
        have hp4 := Lib.hid hr4
        clear hr4 hS3 hx3 hp3
        have k5 := Lib.hid (skip_any B G tv ts en ov d _ nv R kwHandle hp4)
        obtain ⟨q4, hq4⟩ : ∃ q, isX ts R kwHandle = q := ⟨_, rfl⟩
        rw [hq4] at k5
        go_wp2_with fail
        refine k5.out.mono ?_
        rintro e5 w5 ⟨rfl, hr5, hb5⟩
        clear k5
        have hx5 := Lib.hid (hx4.out.step hb5)
        have hS5 := Lib.hid (show Stp G w nv w5 nv from hS4.out.trans (Stp.of hb5))
        clear hb5
        clear c0 c3 cl
        have c0 := hx5.out.c0; have c3 := hx5.out.c3; have cl := hx5.out.lt
        dsimp only at c0 c3
        cases q4
        · rw [take_no hq4] at hr5
          have hp5 := Lib.hid hr5
          clear hr5 hS4 hx4 hp4
          have ha := Lib.hid (at6 (e := e) hp.out h0.out h1.out hq1 hq2 hq3 hq4)
          have k5 := Lib.hid (pfail_any B G tv ts en ov d _ nv R 403 _ _ (wanted_in w5.heap.size) (Lib.hid (hp5.out.below (below_alc w5 (.cells #[.string ⟨#[97, 110, 32, 101, 120, 112, 114, 101, 115, 115, 105, 111, 110]⟩] 78)))))
          clear hq1 hq2 hq3 hq4
          go_wp2_with fail
          refine k5.out.mono ?_
          rintro e9 w9 ⟨rfl, hp9, hb9⟩
          have hfin : Hid (PqN B G tv ts en ov d w nv (R >>= atomP ts en e) (.returned (.int .i64 0)) w9) := Lib.hid ⟨0, nv, rfl, by rw [ha.out.1]; exact hp9, (hS5.out.next (below_alc w5 _)).trans (Stp.of hb9), fun x st' hc => absurd hc (ha.out.2 x st')⟩
          clear k5 hp9 hb9 ha
          go_wp2_with fail
          go_ret
          exact hfin.out
        · have hr5 := Lib.hid hr5
          have ha := Lib.hid (at5 (e := e) hp.out h0.out h1.out hq1 hq2 hq3 hq4)
          clear hq1 hq2 hq3 hq4
          have k9 := Lib.hid (phandle_any B G tv ts en ov d e kE ta _ nv (takeX ts R kwHandle) hr5)
          go_wp2_with fail
          refine k9.out.mono ?_
          rintro e9 w9 ⟨v, nv9, rfl, hp9, hs9, hv9⟩
          have hfin : Hid (PqN B G tv ts en ov d w nv (R >>= atomP ts en e) (.returned (.int .i64 v)) w9) := Lib.hid (by rw [ha.out]; exact ⟨v, nv9, rfl, hp9, hS5.out.trans hs9, hv9⟩)
          clear k9 hp9 hs9 hv9 ha c0 c3 cl
          go_wp2_with fail
          go_ret
          exact hfin.out
      · have hr4 := Lib.hid hr4
        have ha := Lib.hid (at4 (e := e) hp.out h0.out h1.out hq1 hq2 hq3)
        clear hq1 hq2 hq3
        have k9 := Lib.hid (kE.out _ nv _ hr4.out)
        go_wp2_with fail
        refine k9.out.mono ?_
        rintro e9 w9 ⟨v, nv9, rfl, hp9, hs9, hv9⟩
        have k10 := Lib.hid (take_any B G tv ts en ov d w9 nv9 _ sgShut (Lib.hid hp9))
        have hS9 := Lib.hid (hS4.out.trans hs9)
        have hv9 := Lib.hid hv9
        clear k9 hp9 hs9 c0 c3 cl
        go_wp2_with fail
        refine k10.out.mono ?_
        rintro e10 w10 ⟨rfl, hp10, hb10⟩
        have hfin : Hid (PqN B G tv ts en ov d w nv (R >>= atomP ts en e) (.returned (.int .i64 v)) w10) := Lib.hid (by rw [ha.out]; exact ⟨v, nv9, rfl, by rw [shut_st]; exact hp10, hS9.out.trans (Stp.of hb10), fun x st' hc => by obtain ⟨s, hs⟩ := shut_ok hc; exact hv9.out _ _ hs⟩)
        clear k10 hp10 hb10 ha hv9
        go_wp2_with fail
        go_ret
        exact hfin.out
    · have hr3 := Lib.hid hr3
      have ha := Lib.hid (at3 (e := e) hp.out h0.out h1.out hq1 hq2)
      clear hq1 hq2
      have k9 := Lib.hid (node_any B G tv ts en ov d _ nv (takeX ts R kwFalse) ⟨2, 0, 0, 0, 0, ⟨#[]⟩, ⟨#[]⟩, ⟨#[]⟩, ⟨#[]⟩, ta⟩ hr3)
      go_wp2_with fail
      refine k9.out.mono ?_
      rintro e9 w9 ⟨v, nv9, rfl, hp9, hs9, hv9⟩
      have hfin : Hid (PqN B G tv ts en ov d w nv (R >>= atomP ts en e) (.returned (.int .i64 v)) w9) := Lib.hid (by rw [ha.out]; exact ⟨v, nv9, rfl, hp9, hS3.out.trans hs9, hv9⟩)
      clear k9 hp9 hs9 hv9 ha c0 c3 cl
      go_wp2_with fail
      go_ret
      exact hfin.out
  · have hr2 := Lib.hid hr2
    have ha := Lib.hid (at2 (e := e) hp.out h0.out h1.out hq1)
    clear hq1
    have k9 := Lib.hid (node_any B G tv ts en ov d _ nv (takeX ts R kwTrue) ⟨2, 0, 0, 0, 1, ⟨#[]⟩, ⟨#[]⟩, ⟨#[]⟩, ⟨#[]⟩, ta⟩ hr2)
    go_wp2_with fail
    refine k9.out.mono ?_
    rintro e9 w9 ⟨v, nv9, rfl, hp9, hs9, hv9⟩
    have hfin : Hid (PqN B G tv ts en ov d w nv (R >>= atomP ts en e) (.returned (.int .i64 v)) w9) := Lib.hid (by rw [ha.out]; exact ⟨v, nv9, rfl, hp9, hS2.out.trans hs9, hv9⟩)
    clear k9 hp9 hs9 hv9 ha c0 c3 cl
    go_wp2_with fail
    go_ret
    exact hfin.out
end Go.Proofs.YtnhfbbognjdnpaaGreatDoor

/- The program's parser: what an application begins with. -/
namespace Go.Proofs.YtnhfbbognjdnpaaGreatDoor
open Go.RowKit
set_option linter.unusedVariables false
set_option linter.unusedSimpArgs false

/-- behind 'do'. -/
def doP (ts : List Tk) (en : Int) (e : PS → Except PE (Nat × PS)) (beg : Int) (st : PS) : Except PE (Nat × PS) := do
  let (x, st) ← nameP ts en st
  let (a, st) ← e st
  putP ts en ⟨9, (a : Nat), 0, 0, 0, x, ba0, ba0, ba0, beg⟩ st
theorem pdo_eq {ts : List Tk} {en : Int} {e : PS → Except PE (Nat × PS)} {beg : Int} {R : Except PE PS} {x1 : ByteArray} {a2 : Int} (hv1 : ∀ y st', (R >>= nameP ts en) = .ok (y, st') → x1 = y) (hv2 : ∀ n st', ((stX (R >>= nameP ts en)) >>= e) = .ok (n, st') → a2 = (n : Nat)) :
    ((stX ((stX (R >>= nameP ts en)) >>= e)) >>= putP ts en ⟨9, a2, 0, 0, 0, x1, ⟨#[]⟩, ⟨#[]⟩, ⟨#[]⟩, beg⟩) = (R >>= doP ts en e beg) := by
  rcases R with _ | st
  · rfl
  simp only [bind, Except.bind, stX] at hv1 hv2 ⊢
  simp only [doP, bind, Except.bind]
  rcases h1 : nameP ts en st with _ | ⟨y1, s1⟩
  · simp only [h1]
  simp only [h1]
  try simp only [h1] at hv1
  try simp only [h1] at hv2
  obtain rfl := hv1 _ _ rfl
  rcases h2 : e s1 with _ | ⟨y2, s2⟩
  · simp only [h2]
  simp only [h2]
  try simp only [h2] at hv2
  obtain rfl := hv2 _ _ rfl
  first | rfl | done
theorem first_no {ts : List Tk} {en : Int} {e : PS → Except PE (Nat × PS)} {R : Except PE PS} (h : isX ts R kwDo = false) : (R >>= firstP ts en e) = (R >>= atomP ts en e) := by
  cases R with
  | error e => rfl
  | ok st =>
    have h : isP ts st.i kwDo = false := h
    show firstP ts en e st = atomP ts en e st
    unfold firstP
    rw [if_neg (by rw [h]; decide)]
theorem first_yes {ts : List Tk} {en : Int} {e : PS → Except PE (Nat × PS)} {R : Except PE PS} (h : isX ts R kwDo = true) : (R >>= firstP ts en e) = (takeX ts R kwDo >>= doP ts en (atomP ts en e) (peekX ts en R).at_) := by
  obtain ⟨st, rfl, hi, hx⟩ := isX_ok h
  have h : isP ts st.i kwDo = true := h
  rw [hx, peek_here]
  show firstP ts en e st = _
  unfold firstP
  rw [if_pos h]
  rfl
theorem atom_ex {B G : Nat} {tv : Value} {ts : List Tk} {en : Int} {ov : Value} {d : Int} {e : PS → Except PE (Nat × PS)} (kE : Hid (ExC B G tv ts en ov 29 d e)) : ExC B G tv ts en ov 92 d (atomP ts en e) := fun w nv R h => atom_any B G tv ts en ov d e kE w nv R (Lib.hid h)
set_option maxRecDepth 100000 in
set_option maxHeartbeats 4000000 in
theorem pfirst_any (B G : Nat) (tv : Value) (ts : List Tk) (en : Int) (ov : Value) (d : Int) (e : PS → Except PE (Nat × PS)) (kE : Hid (ExC B G tv ts en ov 29 d e)) (beg : Int) (w : World) (nv : Value) (R : Except PE PS) (hbeg : (peekX ts en R).at_ = beg) (h : Hid (PqX B G tv ts en ov d w nv R)) :
    Calls Tryz.prog 90 #[.pointer (some ⟨G, 0, none⟩), .int .i64 beg] w (PqN B G tv ts en ov d w nv (R >>= firstP ts en e)) := by
  have kA := Lib.hid (atom_ex kE)
  have k := Lib.hid (skip_any B G tv ts en ov d w nv R kwDo h)
  obtain ⟨q, hq⟩ : ∃ q, isX ts R kwDo = q := ⟨_, rfl⟩
  rw [hq] at k
  have hbeg := Lib.hid hbeg
  go_enter Tryz.func90, Tryz.ntmps90
  go_wp2_with fail
  refine k.out.mono ?_
  rintro e0 v0 ⟨rfl, hr, hb⟩
  clear k
  have hr := Lib.hid hr
  have hT := Lib.hid (show Stp G w nv v0 nv from Stp.of hb)
  clear hb
  cases q
  · have hf := Lib.hid (first_no (en := en) (e := e) hq)
    rw [take_no hq] at hr
    clear hq
    go_wp2_with fail
    refine (kA.out _ nv _ hr.out).mono ?_
    rintro e4 w4 ⟨v, nv4, rfl, hp4, hs4, hv4⟩
    have hfin : Hid (PqN B G tv ts en ov d w nv (R >>= firstP ts en e) (.returned (.int .i64 v)) w4) := Lib.hid (by rw [hf.out]; exact ⟨v, nv4, rfl, hp4, hT.out.trans hs4, hv4⟩)
    clear hp4 hs4 hv4 hf
    go_wp2_with fail
    go_ret
    exact hfin.out
  · have hf := Lib.hid (first_yes (en := en) (e := e) hq)
    clear hq
    generalize takeX ts R kwDo = R' at hr hf
    have hx0 := Lib.hid (NdBox.new hr.out ⟨9, 0, 0, 0, 0, ⟨#[]⟩, ⟨#[]⟩, ⟨#[]⟩, ⟨#[]⟩, beg⟩)
    have hp0 := Lib.hid (hr.out.below (below_alc v0 (.cells #[.int .i64 9, .int .i64 0, .int .i64 0, .int .i64 0, .int .i64 0, .string ⟨#[]⟩, .string ⟨#[]⟩, .string ⟨#[]⟩, .string ⟨#[]⟩, .int .i64 beg] 66)))
    have hS0 := Lib.hid (show Stp G w nv (v0.alloc (.cells #[.int .i64 9, .int .i64 0, .int .i64 0, .int .i64 0, .int .i64 0, .string ⟨#[]⟩, .string ⟨#[]⟩, .string ⟨#[]⟩, .string ⟨#[]⟩, .int .i64 beg] 66)) nv from hT.out.next (below_alc v0 (.cells #[.int .i64 9, .int .i64 0, .int .i64 0, .int .i64 0, .int .i64 0, .string ⟨#[]⟩, .string ⟨#[]⟩, .string ⟨#[]⟩, .string ⟨#[]⟩, .int .i64 beg] 66)))
    have hBw := Lib.hid hr.out.lt.2.1
    go_wp2_with fail
    refine (pname_any B G tv ts en ov d _ nv _ hp0).mono ?_
    rintro e1 w1 ⟨x1, rfl, ⟨hq1, hb1⟩, hv1⟩
    have hs1 := Lib.hid (show Stp G _ nv w1 nv from Stp.of hb1)
    clear hb1
    have hv1 := Lib.hid hv1
    have hy1 := Lib.hid (hx0.out.step hs1.out)
    have hx1 := Lib.hid (hy1.out.set5 x1)
    have hp1 := Lib.hid (hq1.box hy1.out hBw.out 5 (.string x1))
    have hS1 := Lib.hid ((hS0.out.trans hs1.out).store hT.out.1.size 5 (.string x1))
    have cs := hy1.out.c5; have cf := hy1.out.fz; have cl := hy1.out.lt
    clear hx0 hS0 hp0 hs1 hq1
    clear hy1
    go_wp2_with fail
    clear cs cf cl
    refine (kA.out _ nv _ hp1.out).mono ?_
    rintro e2 w2 ⟨a2, nv2, rfl, hq2, hs2, hv2⟩
    have hs2 := Lib.hid hs2
    have hv2 := Lib.hid hv2
    have hy2 := Lib.hid (hx1.out.step hs2.out)
    have hx2 := Lib.hid (hy2.out.set1 a2)
    have hp2 := Lib.hid (hq2.box hy2.out hBw.out 1 (.int .i64 a2))
    have hS2 := Lib.hid ((hS1.out.trans hs2.out).store hT.out.1.size 1 (.int .i64 a2))
    clear hx1 hS1 hp1 hs2 hq2
    have c0 := hy2.out.c0
    have c1 := hy2.out.c1
    have c2 := hy2.out.c2
    have c3 := hy2.out.c3
    have c4 := hy2.out.c4
    have c5 := hy2.out.c5
    have c6 := hy2.out.c6
    have c7 := hy2.out.c7
    have c8 := hy2.out.c8
    have c9 := hy2.out.c9
    have cf := hy2.out.fz; have cl := hy2.out.lt
    dsimp only at c0 c1 c2 c3 c4 c5 c6 c7 c8 c9
    have k4 := Lib.hid (node_any B G tv ts en ov d _ nv2 _ ⟨9, a2, 0, 0, 0, x1, ⟨#[]⟩, ⟨#[]⟩, ⟨#[]⟩, beg⟩ hp2)
    have he := Lib.hid (pdo_eq (ts := ts) (en := en) (e := atomP ts en e) (beg := beg) (R := R') hv1.out hv2.out)
    go_wp2_with fail
    refine k4.out.mono ?_
    rintro e4 w4 ⟨v, nv4, rfl, hp4, hs4, hv4⟩
    have hfin : Hid (PqN B G tv ts en ov d w nv (R >>= firstP ts en e) (.returned (.int .i64 v)) w4) := Lib.hid (by rw [hf.out, hbeg.out, ← he.out]; exact ⟨v, nv4, rfl, hp4, hS2.out.trans hs4, hv4⟩)
    clear k4 hp4 hs4 hv4 he hf c0 c1 c2 c3 c4 c5 c6 c7 c8 c9 cf cl
    go_wp2_with fail
    go_ret
    exact hfin.out
end Go.Proofs.YtnhfbbognjdnpaaGreatDoor
