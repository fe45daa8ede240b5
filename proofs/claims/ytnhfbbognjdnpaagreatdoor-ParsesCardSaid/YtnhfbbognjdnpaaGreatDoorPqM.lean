/- The program's parser: a prim. -/
import Derived.Test.YtnhfbbognjdnpaaGreatDoorPqK
import Derived.Deep.LoopGhost
/- The program's parser: a prim. -/
namespace Go.Proofs.YtnhfbbognjdnpaaGreatDoor
open Go.RowKit
set_option linter.unusedVariables false
set_option linter.unusedSimpArgs false

/-- a prim whose left operand may be any number. -/
def primV (ts : List Tk) (en : Int) (num at_ l : Int) (o : PS → Except PE (Nat × PS)) (st : PS) : Except PE (Nat × PS) := do
  let (b, st) ← o st
  putP ts en ⟨8, l, (b : Nat), 0, num, ba0, ba0, ba0, ba0, at_⟩ st
theorem prim_eq {ts : List Tk} {en : Int} {o : PS → Except PE (Nat × PS)} {num at_ l a : Int} {R : Except PE PS} (hv : ∀ n st', (R >>= o) = .ok (n, st') → a = (n : Nat)) : (stX (R >>= o) >>= putP ts en ⟨8, l, a, 0, num, ⟨#[]⟩, ⟨#[]⟩, ⟨#[]⟩, ⟨#[]⟩, at_⟩) = (R >>= primV ts en num at_ l o) := by
  rcases R with _ | st
  · rfl
  simp only [bind, Except.bind, stX] at hv ⊢
  simp only [primV, bind, Except.bind]
  rcases h1 : o st with _ | ⟨y, s⟩
  · simp only []
  simp only []
  rw [h1] at hv
  obtain rfl := hv _ _ rfl
  rfl
set_option maxRecDepth 100000 in
set_option maxHeartbeats 2000000 in
theorem pprim_any (B G : Nat) (tv : Value) (ts : List Tk) (en : Int) (ov : Value) (d : Int) (F : Nat) (o : PS → Except PE (Nat × PS)) (kO : Hid (ExC B G tv ts en ov F d o)) (hF : Hid (∀ (xs : Array Value) (W : World), (callFunc F xs).run Tryz.prog W = .ok (.enter F xs) W)) (num at_ l : Int) (w : World) (nv : Value) (R : Except PE PS) (h : Hid (PqX B G tv ts en ov d w nv R)) :
    Calls Tryz.prog 84 #[.pointer (some ⟨G, 0, none⟩), .int .i64 num, .int .i64 at_, .int .i64 l, .func (.func F) #[.pointer (some ⟨G, 0, none⟩)] #[]] w (PqN B G tv ts en ov d w nv (R >>= primV ts en num at_ l o)) := by
  have kf := hF.out
  go_enter Tryz.func84, Tryz.ntmps84
  go_wp2_with fail
  refine (kO.out _ nv _ h.out).mono ?_
  rintro e1 w1 ⟨a, nv1, rfl, hp1, hs1, hv1⟩
  have he := Lib.hid (prim_eq (ts := ts) (en := en) (num := num) (at_ := at_) (l := l) hv1)
  have k4 := Lib.hid (node_any B G tv ts en ov d _ nv1 _ ⟨8, l, a, 0, num, ⟨#[]⟩, ⟨#[]⟩, ⟨#[]⟩, ⟨#[]⟩, at_⟩ (Lib.hid hp1))
  have hS := Lib.hid hs1
  clear hp1 hs1 hv1
  go_wp2_with fail
  refine k4.out.mono ?_
  rintro e4 w4 ⟨v, nv4, rfl, hp4, hs4, hv4⟩
  have hfin : Hid (PqN B G tv ts en ov d w nv (R >>= primV ts en num at_ l o) (.returned (.int .i64 v)) w4) := Lib.hid (by rw [← he.out]; exact ⟨v, nv4, rfl, hp4, hS.out.trans hs4, hv4⟩)
  clear k4 hp4 hs4 hv4 he
  go_wp2_with fail
  go_ret
  exact hfin.out
end Go.Proofs.YtnhfbbognjdnpaaGreatDoor

/- The program's parser: an expression, over what it opens with. -/
namespace Go.Proofs.YtnhfbbognjdnpaaGreatDoor
open Go.RowKit
set_option linter.unusedVariables false
set_option linter.unusedSimpArgs false

theorem err_neq' (t : TypeId) (u : Value) (W : World) : (binOp .neq 40 (.iface t u) .nilIface).run Tryz.prog W = .ok (.bool true) W := by kernel_rfl
theorem nil_neq' (W : World) : (binOp .neq 40 .nilIface .nilIface).run Tryz.prog W = .ok (.bool false) W := by kernel_rfl
theorem PqW.setD {B G : Nat} {tv : Value} {ts : List Tk} {en : Int} {ov : Value} {d : Int} {w : World} {nv : Value} {st : PS} {ev : Value} (h : PqW B G tv ts en ov d w nv st ev) (d' : Int) : PqW B G tv ts en ov d' (w.setCell ⟨G, 3, none⟩ (.int .i64 d')) nv st ev ∧ Bar (fun k => k = G) w (w.setCell ⟨G, 3, none⟩ (.int .i64 d')) := by
  have ne : ∀ a b : Nat, a ≠ b → (⟨G, a, none⟩ : Addr) ≠ ⟨G, b, none⟩ := fun a b hab e => by injection e with _ e2 _; exact hab e2
  have hb : Bar (fun k => k = G) w (w.setCell ⟨G, 3, none⟩ (.int .i64 d')) := Bar.set (S := fun k => k = G) ⟨G, 3, none⟩ _ rfl
  exact ⟨⟨setO h.t (ne _ _ (by decide)), setO h.e (ne _ _ (by decide)), setO h.i (ne _ _ (by decide)), setS h.d, setO h.o (ne _ _ (by decide)), setO h.n (ne _ _ (by decide)), setO h.r (ne _ _ (by decide)), h.gB, by simpa using h.bl, fun o => by simp only [World.frozen?_setCell]; exact h.fg o, h.tk.bar hb (fun k _ hk => hk), Bar.own hb h.own (fun k hk e => by have := (own_lt h.own k hk).1; have := h.gB; omega), h.il, h.nl, h.tl, fun k hk => by have := h.ol k hk; simpa using this⟩, hb⟩
theorem PqX.setD {B G : Nat} {tv : Value} {ts : List Tk} {en : Int} {ov : Value} {d : Int} {w : World} {nv : Value} {R : Except PE PS} (h : PqX B G tv ts en ov d w nv R) (d' : Int) : PqX B G tv ts en ov d' (w.setCell ⟨G, 3, none⟩ (.int .i64 d')) nv R ∧ Bar (fun k => k = G) w (w.setCell ⟨G, 3, none⟩ (.int .i64 d')) := by
  cases R with
  | ok st => exact PqW.setD h d'
  | error e =>
    obtain ⟨st, ev, h1, h2⟩ := h
    obtain ⟨h3, h4⟩ := h1.setD d'
    exact ⟨⟨st, ev, h3, h2.bar h4 (fun k hk _ _ => hk) (fun g hg => .inl hg)⟩, h4⟩
theorem PqX.cellD {B G : Nat} {tv : Value} {ts : List Tk} {en : Int} {ov : Value} {d : Int} {w : World} {nv : Value} {R : Except PE PS} (h : PqX B G tv ts en ov d w nv R) : w.cell? ⟨G, 3, none⟩ = some (.int .i64 d) ∧ (∀ o, w.frozen? ⟨G, o, none⟩ = false) ∧ G < w.heap.size := by
  obtain ⟨st, ev, h1, _⟩ := h.sl
  exact ⟨h1.d, h1.fg, by have := h1.gB; have := h1.bl; omega⟩
set_option maxRecDepth 100000 in
set_option maxHeartbeats 2000000 in
/-- behind an error no expression is read. -/
theorem expr_err (B G : Nat) (tv : Value) (ts : List Tk) (en : Int) (ov : Value) (d : Int) (w : World) (nv : Value) (e : PE) (h : Hid (PqX B G tv ts en ov d w nv (.error e))) (hd : d ≠ 40) :
    Calls Tryz.prog 29 #[.pointer (some ⟨G, 0, none⟩)] w (PqN B G tv ts en ov d w nv (.error e)) := by
  obtain ⟨st, ev, h1, F, v, rfl, _⟩ := h.out
  have hr := h1.r
  have hc := h1.d
  have hgl : G < w.heap.size := by have := h1.gB; have := h1.bl; omega
  have hn0 := fun (u : Value) (W : World) => err_neq' 43 u W
  have e0 : (d == 40) = false := beq_eq_false_iff_ne.2 hd
  clear h1 hd
  go_enter Tryz.func29, Tryz.ntmps29
  go_wp2_with fail
  go_ret
  exact ⟨_, nv, rfl, h.out, Stp.refl _ _ _, fun x st' hc => by cases hc⟩
set_option maxRecDepth 100000 in
set_option maxHeartbeats 2000000 in
theorem expr_ok (B G : Nat) (tv : Value) (ts : List Tk) (en : Int) (ov : Value) (d : Int) (f : PS → Except PE (Nat × PS)) (kO : Hid (ExC B G tv ts en ov 47 (d + 1) f)) (hd0 : 0 ≤ d) (hd : d < 40) (w : World) (nv : Value) (st : PS) (h : Hid (PqX B G tv ts en ov d w nv (.ok st))) :
    Calls Tryz.prog 29 #[.pointer (some ⟨G, 0, none⟩)] w (PqN B G tv ts en ov d w nv (f st)) := by
  have h1 : PqW B G tv ts en ov d w nv st .nilIface := h.out
  have hr := h1.r
  have hc := h1.d
  have hf := h1.fg
  have hgl : G < w.heap.size := by have := h1.gB; have := h1.bl; omega
  have hn1 := nil_neq'
  have e0 : (d == 40) = false := beq_eq_false_iff_ne.2 (by omega)
  have h2 := Lib.hid (h.out.setD (d + 1))
  have kO' := Lib.hid (kO.out _ nv _ h2.out.1)
  clear h1
  go_enter Tryz.func29, Tryz.ntmps29
  go_wp2_with fail
  refine kO'.out.mono ?_
  rintro e1 w1 ⟨v, nv1, rfl, hp1, hs1, hv1⟩
  obtain ⟨c3, cf, cl⟩ := hp1.cellD
  have h3 := Lib.hid (hp1.setD d)
  have hs1 := Lib.hid hs1
  have hv1 := Lib.hid hv1
  clear hp1 hr hc hf hgl kO'
  have ed : d + 1 - 1 = d := by omega
  go_wp2_with fail
  go_ret
  first
    | exact ⟨v, nv1, rfl, h3.out.1, ((Stp.of h2.out.2).trans hs1.out).trans (Stp.of h3.out.2), hv1.out⟩
    | (rw [ed]; exact ⟨v, nv1, rfl, h3.out.1, ((Stp.of h2.out.2).trans hs1.out).trans (Stp.of h3.out.2), hv1.out⟩)
set_option maxRecDepth 100000 in
set_option maxHeartbeats 2000000 in
/-- forty lie within one another: no more. -/
theorem expr_deep (B G : Nat) (tv : Value) (ts : List Tk) (en : Int) (ov : Value) : ExC B G tv ts en ov 29 40 (exprP ts en 0) := by
  intro w nv R h
  have h := Lib.hid h
  have k := Lib.hid (pfail_any B G tv ts en ov 40 w nv R 401 26 (.int .i64 401) (.inr ⟨by decide, rfl⟩) h)
  have hfx : Hid (∃ e, failX ts en R 401 = .error e ∧ (R >>= exprP ts en 0) = .error e) := Lib.hid (by
    cases R with
    | error e => exact ⟨e, rfl, rfl⟩
    | ok st => exact ⟨_, rfl, rfl⟩)
  obtain ⟨e, he1, he2⟩ := hfx.out
  rw [he1] at k
  rw [he2]
  have hc := h.out.cellD.1
  have hgl := h.out.cellD.2.2
  clear he1 he2 hfx
  go_enter Tryz.func29, Tryz.ntmps29
  go_wp2_with fail
  refine k.out.mono ?_
  rintro e1 w1 ⟨rfl, hp1, hb1⟩
  obtain ⟨st, ev, h1, F, v, rfl, _⟩ := id hp1
  have hr := h1.r
  have hn0 := fun (u : Value) (W : World) => err_neq' 43 u W
  have hgl : G < w1.heap.size := by have := h1.gB; have := h1.bl; omega
  have hp1 := Lib.hid hp1
  have hb1 := Lib.hid hb1
  clear h1 hc k
  go_wp2_with fail
  go_ret
  exact ⟨_, nv, rfl, hp1.out, Stp.of hb1.out, fun x st' hc => by cases hc⟩
theorem expr_ex {B G : Nat} {tv : Value} {ts : List Tk} {en : Int} {ov : Value} {d : Int} {r : Nat} (kO : Hid (ExC B G tv ts en ov 47 (d + 1) (openP ts en (exprP ts en r)))) (hd0 : 0 ≤ d) (hd : d < 40) : ExC B G tv ts en ov 29 d (exprP ts en (r + 1)) := by
  intro w nv R h
  cases R with
  | error e => exact expr_err B G tv ts en ov d w nv e (Lib.hid h) (by omega)
  | ok st => exact expr_ok B G tv ts en ov d _ kO hd0 hd w nv st (Lib.hid h)
end Go.Proofs.YtnhfbbognjdnpaaGreatDoor

/- The program's parser: int or bool. -/
namespace Go.Proofs.YtnhfbbognjdnpaaGreatDoor
open Go.RowKit
set_option linter.unusedVariables false
set_option linter.unusedSimpArgs false

theorem base1 {ts : List Tk} {en : Int} {R : Except PE PS} (h : isX ts R kwInt = true) : ∃ s, takeX ts R kwInt = .ok s ∧ (R >>= baseP ts en) = .ok (0, s) := by
  obtain ⟨st, rfl, hi, hx⟩ := isX_ok h
  have h : isP ts st.i kwInt = true := h
  exact ⟨_, hx, by show baseP ts en st = _; unfold baseP; rw [if_pos h]⟩
theorem base2 {ts : List Tk} {en : Int} {R : Except PE PS} (h1 : isX ts R kwInt = false) (h : isX ts R kwBool = true) : ∃ s, takeX ts R kwBool = .ok s ∧ (R >>= baseP ts en) = .ok (1, s) := by
  obtain ⟨st, rfl, hi, hx⟩ := isX_ok h
  have h : isP ts st.i kwBool = true := h
  have h1 : isP ts st.i kwInt = false := h1
  exact ⟨_, hx, by show baseP ts en st = _; unfold baseP; rw [if_neg (by rw [h1]; decide), if_pos h]⟩
theorem base3 {ts : List Tk} {en : Int} {R : Except PE PS} (h1 : isX ts R kwInt = false) (h : isX ts R kwBool = false) : stX (R >>= baseP ts en) = failX ts en R 403 ∧ ∀ y st', (R >>= baseP ts en) ≠ .ok (y, st') := by
  cases R with
  | error e => exact ⟨rfl, fun y st' hc => by cases hc⟩
  | ok st =>
    have h : isP ts st.i kwBool = false := h
    have h1 : isP ts st.i kwInt = false := h1
    have k : (Except.ok st >>= baseP ts en) = .error (403, hereP ts en st.i) := by
      show baseP ts en st = _
      unfold baseP
      rw [if_neg (by rw [h1]; decide), if_neg (by rw [h]; decide)]
    rw [k]
    exact ⟨rfl, fun y st' hc => by cases hc⟩
def PqI (B G : Nat) (tv : Value) (ts : List Tk) (en : Int) (ov : Value) (d : Int) (w : World) (nv : Value) (R : Except PE (Int × PS)) (e : Ending) (w' : World) : Prop := ∃ x, e = .returned (.int .i64 x) ∧ PqP B G tv ts en ov d w nv (stX R) w' ∧ ∀ y st', R = .ok (y, st') → x = y
set_option maxRecDepth 100000 in
set_option maxHeartbeats 2000000 in
theorem base_any (B G : Nat) (tv : Value) (ts : List Tk) (en : Int) (ov : Value) (d : Int) (w : World) (nv : Value) (R : Except PE PS) (h : Hid (PqX B G tv ts en ov d w nv R)) :
    Calls Tryz.prog 46 #[.pointer (some ⟨G, 0, none⟩)] w (PqI B G tv ts en ov d w nv (R >>= baseP ts en)) := by
  have k := Lib.hid (skip_any B G tv ts en ov d w nv R kwInt h)
  obtain ⟨q, hq⟩ : ∃ q, isX ts R kwInt = q := ⟨_, rfl⟩
  rw [hq] at k
  go_enter Tryz.func46, Tryz.ntmps46
  go_wp2_with fail
  refine k.out.mono ?_
  rintro e1 w1 ⟨rfl, hr1, hb1⟩
  have hb1 := Lib.hid hb1
  clear k
  cases q
  · rw [take_no hq] at hr1
    have hr1 := Lib.hid hr1
    have k := Lib.hid (skip_any B G tv ts en ov d w1 nv R kwBool hr1)
    obtain ⟨q2, hq2⟩ : ∃ q, isX ts R kwBool = q := ⟨_, rfl⟩
    rw [hq2] at k
    go_wp2_with fail
    refine k.out.mono ?_
    rintro e2 w2 ⟨rfl, hr2, hb2⟩
    have hb2 := Lib.hid (hb1.out.trans hb2 fun _ _ hs => hs)
    clear k
    cases q2
    · have ha := Lib.hid (base3 (en := en) hq hq2)
      rw [take_no hq2] at hr2
      have hr2 := Lib.hid hr2
      have k5 := Lib.hid (pfail_any B G tv ts en ov d _ nv R 403 _ _ (wanted_in w2.heap.size) (Lib.hid (hr2.out.below (below_alc w2 (.cells #[.string ⟨#[105, 110, 116, 32, 111, 114, 32, 98, 111, 111, 108]⟩] 78)))))
      clear hq hq2
      go_wp2_with fail
      refine k5.out.mono ?_
      rintro e9 w9 ⟨rfl, hp9, hb9⟩
      have hfin : Hid (PqI B G tv ts en ov d w nv (R >>= baseP ts en) (.returned (.int .i64 0)) w9) := Lib.hid ⟨0, rfl, ⟨by rw [ha.out.1]; exact hp9, (hb2.out.next (below_alc w2 _)).trans hb9 fun _ _ hs => hs⟩, fun x st' hc => absurd hc (ha.out.2 x st')⟩
      clear k5 hp9 hb9 ha
      go_wp2_with fail
      go_ret
      exact hfin.out
    · obtain ⟨s, hs1, hs2⟩ := base2 (en := en) hq hq2
      rw [hs1] at hr2
      have hs2 := Lib.hid hs2
      have hr2 := Lib.hid hr2
      clear hs1 hq hq2
      go_wp2_with fail
      go_ret
      exact ⟨1, rfl, ⟨by rw [hs2.out]; exact hr2.out, hb2.out⟩, fun y st' hc => by rw [hs2.out] at hc; injection hc with hc; injection hc⟩
  · obtain ⟨s, hs1, hs2⟩ := base1 (en := en) hq
    rw [hs1] at hr1
    have hs2 := Lib.hid hs2
    have hr1 := Lib.hid hr1
    clear hs1 hq
    go_wp2_with fail
    go_ret
    exact ⟨0, rfl, ⟨by rw [hs2.out]; exact hr1.out, hb1.out⟩, fun y st' hc => by rw [hs2.out] at hc; injection hc with hc; injection hc⟩
end Go.Proofs.YtnhfbbognjdnpaaGreatDoor

/- The program's parser: loops over operands, plain. -/
namespace Go.Proofs.YtnhfbbognjdnpaaGreatDoor
open Go.RowKit
set_option linter.unusedVariables false
set_option linter.unusedSimpArgs false

/-- what a loop over operands keeps: its left operand's number, and what is still to come (L, with so many rounds at most). -/
structure LpI (B G : Nat) (tv : Value) (ts : List Tk) (en : Int) (ov : Value) (d : Int) (w : World) (nv : Value) (T : Except PE (Nat × PS)) (L : Nat → Nat → PS → Except PE (Nat × PS)) (k : Nat) (z : Int) (wr : World) (nvr : Value) (Rr : Except PE (Nat × PS)) : Prop where
  x : PqX B G tv ts en ov d wr nvr (stX Rr)
  s : Stp G w nv wr nvr
  v : ∀ n st, Rr = .ok (n, st) → z = (n : Nat) ∧ st.i ≤ ts.length ∧ ts.length < k + st.i
  e : (Rr >>= fun p => L k p.1 p.2) = T
section
variable {B G : Nat} {tv : Value} {ts : List Tk} {en : Int} {ov : Value} {d : Int} {w : World} {nv : Value} {T : Except PE (Nat × PS)} {k : Nat} {z : Int} {wr : World} {nvr : Value} {Rr : Except PE (Nat × PS)} {e o : PS → Except PE (Nat × PS)} {beg : Int}
theorem starts_err {x : PE} : startsX ts (.error x) = false := rfl
theorem LpI.app_end (h : LpI B G tv ts en ov d w nv T (appLoop ts en e beg) k z wr nvr Rr) (hs : startsX ts (stX Rr) = false) : Rr = T := by
  rw [← h.e]
  rcases Rr with _ | ⟨n, st⟩
  · rfl
  have h1 := (h.v n st rfl).2
  have hs : startsP ts st.i = false := hs
  obtain ⟨k, rfl⟩ : ∃ j, k = j + 1 := ⟨k - 1, by omega⟩
  show _ = appLoop ts en e beg (k + 1) n st
  unfold appLoop
  rw [if_neg (by rw [hs]; decide)]
theorem LpI.app_ok (h : LpI B G tv ts en ov d w nv T (appLoop ts en e beg) k z wr nvr Rr) (hs : startsX ts (stX Rr) = true) : ∃ n st, Rr = .ok (n, st) ∧ 0 < k := by
  rcases Rr with _ | ⟨n, st⟩
  · cases hs
  exact ⟨n, st, rfl, by have := (h.v n st rfl).2; omega⟩
theorem LpI.app_next (he : Mono ts e) (h : LpI B G tv ts en ov d w nv T (appLoop ts en e beg) k z wr nvr Rr) (hs : startsX ts (stX Rr) = true) {b z' : Int} {w2 : World} {nv2 : Value} (hb : ∀ n st, (stX Rr >>= atomP ts en e) = .ok (n, st) → b = (n : Nat)) (hS : Stp G w nv w2 nv2)
    (hx : PqX B G tv ts en ov d w2 nv2 (stX (stX (stX Rr >>= atomP ts en e) >>= putP ts en ⟨4, z, b, 0, 0, ⟨#[]⟩, ⟨#[]⟩, ⟨#[]⟩, ⟨#[]⟩, beg⟩)))
    (hz : ∀ n st, (stX (stX Rr >>= atomP ts en e) >>= putP ts en ⟨4, z, b, 0, 0, ⟨#[]⟩, ⟨#[]⟩, ⟨#[]⟩, ⟨#[]⟩, beg⟩) = .ok (n, st) → z' = (n : Nat)) :
    LpI B G tv ts en ov d w nv T (appLoop ts en e beg) (k - 1) z' w2 nv2 (stX (stX Rr >>= atomP ts en e) >>= putP ts en ⟨4, z, b, 0, 0, ⟨#[]⟩, ⟨#[]⟩, ⟨#[]⟩, ⟨#[]⟩, beg⟩) := by
  obtain ⟨n, st, rfl, hk⟩ := h.app_ok hs
  obtain ⟨k, rfl⟩ : ∃ j, k = j + 1 := ⟨k - 1, by omega⟩
  have hs : startsP ts st.i = true := hs
  obtain ⟨h1, h2, h3⟩ := h.v n st rfl
  subst h1
  refine ⟨hx, hS, ?_, ?_⟩
  · intro n' st' hr
    refine ⟨hz _ _ hr, ?_⟩
    obtain ⟨s1, h4, h5⟩ := ex_ok.1 hr
    have h4 : stX (atomP ts en e st) = .ok s1 := h4
    rcases ha : atomP ts en e st with _ | ⟨m, s2⟩
    · rw [ha] at h4; cases h4
    rw [ha] at h4
    injection h4 with h4
    subst h4
    obtain ⟨rfl, _, _⟩ := putP_ok h5
    have hf := atomP_fwd he _ _ _ ha
    have := hf.lt; have := hf.le
    exact ⟨hf.le, by dsimp only; omega⟩
  · rw [← h.e]
    show _ = appLoop ts en e beg (k + 1) n st
    rw [appLoop, if_pos hs]
    have hb : ∀ n' st', atomP ts en e st = .ok (n', st') → b = (n' : Nat) := hb
    show ((stX (atomP ts en e st) >>= putP ts en _) >>= _) = _
    rcases ha : atomP ts en e st with _ | ⟨m, s2⟩
    · rfl
    obtain rfl := hb _ _ ha
    rfl
theorem LpI.rk_end {u v : List UInt8} {nu nw : Int} (h : LpI B G tv ts en ov d w nv T (rankLoop ts en u v nu nw o) k z wr nvr Rr) (hu : isX ts (stX Rr) u = false) (hv : isX ts (stX Rr) v = false) : Rr = T := by
  rw [← h.e]
  rcases Rr with _ | ⟨n, st⟩
  · rfl
  have h1 := (h.v n st rfl).2
  have hu : isP ts st.i u = false := hu
  have hv : isP ts st.i v = false := hv
  obtain ⟨k, rfl⟩ : ∃ j, k = j + 1 := ⟨k - 1, by omega⟩
  show _ = rankLoop ts en u v nu nw o (k + 1) n st
  unfold rankLoop
  rw [if_neg (by rw [hu]; decide), if_neg (by rw [hv]; decide)]
theorem LpI.rk_ok {u : List UInt8} {L : Nat → Nat → PS → Except PE (Nat × PS)} (h : LpI B G tv ts en ov d w nv T L k z wr nvr Rr) (hu : isX ts (stX Rr) u = true) : ∃ n st, Rr = .ok (n, st) ∧ 0 < k := by
  rcases Rr with _ | ⟨n, st⟩
  · cases hu
  exact ⟨n, st, rfl, by have := (h.v n st rfl).2; omega⟩
theorem LpI.rk_u {u v : List UInt8} {nu nw : Int} (ho : Mono ts o) (h : LpI B G tv ts en ov d w nv T (rankLoop ts en u v nu nw o) k z wr nvr Rr) (hu : isX ts (stX Rr) u = true) {z' : Int} {w2 : World} {nv2 : Value} (hS : Stp G w nv w2 nv2)
    (hx : PqX B G tv ts en ov d w2 nv2 (stX (takeX ts (stX Rr) u >>= primV ts en nu (peekX ts en (stX Rr)).at_ z o)))
    (hz : ∀ n st, (takeX ts (stX Rr) u >>= primV ts en nu (peekX ts en (stX Rr)).at_ z o) = .ok (n, st) → z' = (n : Nat)) :
    LpI B G tv ts en ov d w nv T (rankLoop ts en u v nu nw o) (k - 1) z' w2 nv2 (takeX ts (stX Rr) u >>= primV ts en nu (peekX ts en (stX Rr)).at_ z o) := by
  obtain ⟨n, st, rfl, hk⟩ := h.rk_ok hu
  obtain ⟨k, rfl⟩ : ∃ j, k = j + 1 := ⟨k - 1, by omega⟩
  have hu' : isP ts st.i u = true := hu
  obtain ⟨h1, h2, h3⟩ := h.v n st rfl
  subst h1
  have hx0 : takeX ts (stX (.ok (n, st) : Except PE (Nat × PS))) u = .ok ⟨st.i + 1, st.ns⟩ := by
    show (if isP ts st.i u then _ else _) = _
    rw [if_pos hu']
  have hp0 : (peekX ts en (stX (.ok (n, st) : Except PE (Nat × PS)))).at_ = hereP ts en st.i := peek_here ts en st
  rw [hx0, hp0] at hx hz ⊢
  refine ⟨hx, hS, ?_, ?_⟩
  · intro n' st' hr
    refine ⟨hz _ _ hr, ?_⟩
    have hf := primP_fwd (l := n) ho hr
    have := hf.lt; have := hf.le
    exact ⟨hf.le, by dsimp only at *; omega⟩
  · rw [← h.e]
    show _ = rankLoop ts en u v nu nw o (k + 1) n st
    rw [rankLoop, if_pos hu']
    rfl
theorem LpI.rk_v {u v : List UInt8} {nu nw : Int} (ho : Mono ts o) (h : LpI B G tv ts en ov d w nv T (rankLoop ts en u v nu nw o) k z wr nvr Rr) (hu : isX ts (stX Rr) u = false) (hv : isX ts (stX Rr) v = true) {z' : Int} {w2 : World} {nv2 : Value} (hS : Stp G w nv w2 nv2)
    (hx : PqX B G tv ts en ov d w2 nv2 (stX (takeX ts (stX Rr) v >>= primV ts en nw (peekX ts en (stX Rr)).at_ z o)))
    (hz : ∀ n st, (takeX ts (stX Rr) v >>= primV ts en nw (peekX ts en (stX Rr)).at_ z o) = .ok (n, st) → z' = (n : Nat)) :
    LpI B G tv ts en ov d w nv T (rankLoop ts en u v nu nw o) (k - 1) z' w2 nv2 (takeX ts (stX Rr) v >>= primV ts en nw (peekX ts en (stX Rr)).at_ z o) := by
  obtain ⟨n, st, rfl, hk⟩ := h.rk_ok hv
  obtain ⟨k, rfl⟩ : ∃ j, k = j + 1 := ⟨k - 1, by omega⟩
  have hu' : isP ts st.i u = false := hu
  have hv' : isP ts st.i v = true := hv
  obtain ⟨h1, h2, h3⟩ := h.v n st rfl
  subst h1
  have hx0 : takeX ts (stX (.ok (n, st) : Except PE (Nat × PS))) v = .ok ⟨st.i + 1, st.ns⟩ := by
    show (if isP ts st.i v then _ else _) = _
    rw [if_pos hv']
  have hp0 : (peekX ts en (stX (.ok (n, st) : Except PE (Nat × PS)))).at_ = hereP ts en st.i := peek_here ts en st
  rw [hx0, hp0] at hx hz ⊢
  refine ⟨hx, hS, ?_, ?_⟩
  · intro n' st' hr
    refine ⟨hz _ _ hr, ?_⟩
    have hf := primP_fwd (l := n) ho hr
    have := hf.lt; have := hf.le
    exact ⟨hf.le, by dsimp only at *; omega⟩
  · rw [← h.e]
    show _ = rankLoop ts en u v nu nw o (k + 1) n st
    rw [rankLoop, if_neg (by rw [hu']; decide), if_pos hv']
    rfl
end
theorem PqX.le {B G : Nat} {tv : Value} {ts : List Tk} {en : Int} {ov : Value} {d : Int} {w : World} {nv : Value} {R : Except PE (Nat × PS)} (h : PqX B G tv ts en ov d w nv (stX R)) : ∀ n st, R = .ok (n, st) → st.i ≤ ts.length := by
  rintro n st rfl
  exact (show PqW B G tv ts en ov d w nv st .nilIface from h).il
theorem app_start {ts : List Tk} {en : Int} {e : PS → Except PE (Nat × PS)} {R : Except PE PS} {beg : Int} (hbeg : (peekX ts en R).at_ = beg) : ((R >>= firstP ts en e) >>= fun p => appLoop ts en e beg (ts.length + 1) p.1 p.2) = (R >>= applyP ts en e) := by
  rcases R with _ | st
  · rfl
  rw [peek_here] at hbeg
  subst hbeg
  rfl
theorem rk_start {ts : List Tk} {en : Int} {o f : PS → Except PE (Nat × PS)} {R : Except PE PS} {u v : List UInt8} {nu nw : Int} (hf : ∀ st, f st = (do
  let (l, st) ← o st
  rankLoop ts en u v nu nw o (ts.length + 1) l st)) : ((R >>= o) >>= fun p => rankLoop ts en u v nu nw o (ts.length + 1) p.1 p.2) = (R >>= f) := by
  rcases R with _ | st
  · rfl
  show _ = f st
  rw [hf]
  rfl
end Go.Proofs.YtnhfbbognjdnpaaGreatDoor

/- The program's parser: an application. -/
namespace Go.Proofs.YtnhfbbognjdnpaaGreatDoor
open Go.RowKit
set_option linter.unusedVariables false
set_option linter.unusedSimpArgs false

set_option maxRecDepth 100000 in
set_option maxHeartbeats 4000000 in
theorem papply_any (B G : Nat) (tv : Value) (ts : List Tk) (en : Int) (ov : Value) (d : Int) (e : PS → Except PE (Nat × PS)) (he : Mono ts e) (kE : Hid (ExC B G tv ts en ov 29 d e)) (w : World) (nv : Value) (R : Except PE PS) (h : Hid (PqX B G tv ts en ov d w nv R)) :
    Calls Tryz.prog 89 #[.pointer (some ⟨G, 0, none⟩)] w (PqN B G tv ts en ov d w nv (R >>= applyP ts en e)) := by
  have kA := Lib.hid (atom_ex kE)
  have k := Lib.hid (place_any B G tv ts en ov d w nv R h)
  obtain ⟨beg, hbeg⟩ : ∃ b, (peekX ts en R).at_ = b := ⟨_, rfl⟩
  rw [hbeg] at k
  have hbeg := Lib.hid hbeg
  have he := Lib.hid he
  go_enter Tryz.func89, Tryz.ntmps89
  go_wp2_with fail
  refine k.out.mono ?_
  rintro e0 v0 ⟨rfl, hb0⟩
  have hb0 := Lib.hid hb0
  clear k
  have k1 := Lib.hid (pfirst_any B G tv ts en ov d e kE beg v0 nv R hbeg.out (Lib.hid (h.out.below hb0.out)))
  go_wp2_with fail
  refine k1.out.mono ?_
  rintro e1 w1 ⟨v1, nv1, rfl, hp1, hs1, hv1⟩
  have hI0 : Hid (LpI B G tv ts en ov d w nv (R >>= applyP ts en e) (appLoop ts en e beg) (ts.length + 1) v1 w1 nv1 (R >>= firstP ts en e)) := Lib.hid ⟨hp1, (Stp.below hb0.out).trans hs1, fun n st hr => ⟨hv1 n st hr, hp1.le n st hr, by omega⟩, app_start hbeg.out⟩
  clear k1 hp1 hs1 hv1
  go_wp2_with fail
  go_loopg [4, 5] (ts.length + 1) (fun k lv rv wr => ∃ (z : Int) (nvr : Value) (Rr : Except PE (Nat × PS)), lv = .int .i64 z ∧ Hid (LpI B G tv ts en ov d w nv (R >>= applyP ts en e) (appLoop ts en e beg) k z wr nvr Rr))
  case atStart => exact ⟨v1, nv1, _, rfl, hI0⟩
  case round =>
    obtain ⟨z, nvr, Rr, rfl, hI⟩ := hrel
    clear hI0
    have k2 := Lib.hid (isAtom_any B G tv ts en ov d wr nvr _ (Lib.hid hI.out.x))
    obtain ⟨q, hq⟩ : ∃ q, startsX ts (stX Rr) = q := ⟨_, rfl⟩
    rw [hq] at k2
    have hq := Lib.hid hq
    go_wp2_with fail
    refine k2.out.mono ?_
    rintro e2 w2 ⟨rfl, hb2⟩
    have hb2 := Lib.hid hb2
    clear k2
    cases q
    · have hfin : Hid (PqN B G tv ts en ov d w nv (R >>= applyP ts en e) (.returned (.int .i64 z)) w2) := Lib.hid (by rw [← hI.out.app_end hq.out]; exact ⟨z, nvr, rfl, hI.out.x.below hb2.out, hI.out.s.next hb2.out, fun x st' hr => (hI.out.v x st' hr).1⟩)
      clear hI
      go_wp2_with fail
      go_ret
      exact hfin.out
    · have hk0 := Lib.hid (hI.out.app_ok hq.out)
      have kA2 := Lib.hid (kA.out w2 nvr _ (hI.out.x.below hb2.out))
      go_wp2_with fail
      refine kA2.out.mono ?_
      rintro e3 w3 ⟨a3, nv3, rfl, hp3, hs3, hv3⟩
      have k4 := Lib.hid (node_any B G tv ts en ov d _ nv3 _ ⟨4, z, a3, 0, 0, ⟨#[]⟩, ⟨#[]⟩, ⟨#[]⟩, ⟨#[]⟩, beg⟩ (Lib.hid hp3))
      have hS3 := Lib.hid ((hI.out.s.next hb2.out).trans hs3)
      have hv3 := Lib.hid hv3
      clear kA2 hp3 hs3
      go_wp2_with fail
      refine k4.out.mono ?_
      rintro e4 w4 ⟨a4, nv4, rfl, hp4, hs4, hv4⟩
      have hI4 := Lib.hid (hI.out.app_next he.out hq.out hv3.out (hS3.out.trans hs4) hp4 hv4)
      clear k4 hp4 hs4 hv4 hS3 hv3
      go_wp2_with fail
      go_roundg (gk - 1)
      case measure => obtain ⟨_, _, _, hk⟩ := hk0.out; omega
      case rel => exact ⟨a4, nv4, _, rfl, hI4⟩
end Go.Proofs.YtnhfbbognjdnpaaGreatDoor

/- The program's parser: products and sums. -/
namespace Go.Proofs.YtnhfbbognjdnpaaGreatDoor
open Go.RowKit
set_option linter.unusedVariables false
set_option linter.unusedSimpArgs false

theorem apply_ex {B G : Nat} {tv : Value} {ts : List Tk} {en : Int} {ov : Value} {d : Int} {e : PS → Except PE (Nat × PS)} (he : Mono ts e) (kE : Hid (ExC B G tv ts en ov 29 d e)) : ExC B G tv ts en ov 89 d (applyP ts en e) := fun w nv R h => papply_any B G tv ts en ov d e he kE w nv R (Lib.hid h)
set_option maxRecDepth 100000 in
set_option maxHeartbeats 4000000 in
theorem pproduct_any (B G : Nat) (tv : Value) (ts : List Tk) (en : Int) (ov : Value) (d : Int) (e : PS → Except PE (Nat × PS)) (he : Mono ts e) (kE : Hid (ExC B G tv ts en ov 29 d e)) (w : World) (nv : Value) (R : Except PE PS) (h : Hid (PqX B G tv ts en ov d w nv R)) :
    Calls Tryz.prog 87 #[.pointer (some ⟨G, 0, none⟩)] w (PqN B G tv ts en ov d w nv (R >>= productP ts en e)) := by
  have kA := Lib.hid (apply_ex he kE)
  have k1 := Lib.hid (kA.out w nv R h.out)
  have hm := Lib.hid (applyP_fwd (en := en) he)
  have hF : Hid (∀ (xs : Array Value) (W : World), (callFunc 89 xs).run Tryz.prog W = .ok (.enter 89 xs) W) := Lib.hid fun _ _ => by kernel_rfl
  go_enter Tryz.func87, Tryz.ntmps87
  go_wp2_with fail
  refine k1.out.mono ?_
  rintro e1 w1 ⟨v1, nv1, rfl, hp1, hs1, hv1⟩
  have hI0 : Hid (LpI B G tv ts en ov d w nv (R >>= productP ts en e) (rankLoop ts en sgMul sgDiv 2 3 (applyP ts en e)) (ts.length + 1) v1 w1 nv1 (R >>= applyP ts en e)) := Lib.hid ⟨hp1, hs1, fun n st hr => ⟨hv1 n st hr, hp1.le n st hr, by omega⟩, rk_start fun st => rfl⟩
  clear k1 hp1 hs1 hv1
  go_wp2_with fail
  go_loopg [3, 4] (ts.length + 1) (fun k lv av wr => ∃ (z : Int) (nvr : Value) (Rr : Except PE (Nat × PS)), lv = .int .i64 z ∧ Hid (LpI B G tv ts en ov d w nv (R >>= productP ts en e) (rankLoop ts en sgMul sgDiv 2 3 (applyP ts en e)) k z wr nvr Rr))
  case atStart => exact ⟨v1, nv1, _, rfl, hI0⟩
  case round =>
    obtain ⟨z, nvr, Rr, rfl, hI⟩ := hrel
    clear hI0
    have k2 := Lib.hid (place_any B G tv ts en ov d wr nvr _ (Lib.hid hI.out.x))
    obtain ⟨at_, hat⟩ : ∃ b, (peekX ts en (stX Rr)).at_ = b := ⟨_, rfl⟩
    rw [hat] at k2
    have hat := Lib.hid hat
    go_wp2_with fail
    refine k2.out.mono ?_
    rintro e2 w2 ⟨rfl, hb2⟩
    have hx2 := Lib.hid (hI.out.x.below hb2)
    have hS2 := Lib.hid (hI.out.s.next hb2)
    clear k2 hb2
    have k3 := Lib.hid (skip_any B G tv ts en ov d w2 nvr _ sgMul hx2)
    obtain ⟨q, hq⟩ : ∃ q, isX ts (stX Rr) sgMul = q := ⟨_, rfl⟩
    rw [hq] at k3
    have hq := Lib.hid hq
    go_wp2_with fail
    refine k3.out.mono ?_
    rintro e3 w3 ⟨rfl, hx3, hb3⟩
    have hx3 := Lib.hid hx3
    have hS3 := Lib.hid (hS2.out.trans (Stp.of (nv := nvr) hb3))
    clear k3 hx2 hS2 hb3
    cases q
    · rw [take_no hq.out] at hx3
      have k4 := Lib.hid (skip_any B G tv ts en ov d w3 nvr _ sgDiv hx3)
      obtain ⟨q2, hq2⟩ : ∃ q, isX ts (stX Rr) sgDiv = q := ⟨_, rfl⟩
      rw [hq2] at k4
      have hq2 := Lib.hid hq2
      go_wp2_with fail
      refine k4.out.mono ?_
      rintro e4 w4 ⟨rfl, hx4, hb4⟩
      have hx4 := Lib.hid hx4
      have hS4 := Lib.hid (hS3.out.trans (Stp.of (nv := nvr) hb4))
      clear k4 hx3 hS3 hb4
      cases q2
      · rw [take_no hq2.out] at hx4
        have hfin : Hid (PqN B G tv ts en ov d w nv (R >>= productP ts en e) (.returned (.int .i64 z)) w4) := Lib.hid (by rw [← hI.out.rk_end hq.out hq2.out]; exact ⟨z, nvr, rfl, hx4.out, hS4.out, fun x st' hr => (hI.out.v x st' hr).1⟩)
        clear hI
        go_wp2_with fail
        go_ret
        exact hfin.out
      · have hk0 := Lib.hid (hI.out.rk_ok hq2.out)
        have k5 := Lib.hid (pprim_any B G tv ts en ov d _ _ kA hF 3 at_ z w4 nvr _ hx4)
        go_wp2_with fail
        refine k5.out.mono ?_
        rintro e5 w5 ⟨a5, nv5, rfl, hp5, hs5, hv5⟩
        have hI5 := Lib.hid (hI.out.rk_v hm.out hq.out hq2.out (hS4.out.trans hs5) (by rw [hat.out]; exact hp5) (by rw [hat.out]; exact hv5))
        clear k5 hp5 hs5 hv5 hS4 hx4
        go_wp2_with fail
        go_roundg (gk - 1)
        case measure => obtain ⟨_, _, _, hk⟩ := hk0.out; omega
        case rel => exact ⟨a5, nv5, _, rfl, hI5⟩
    · have hk0 := Lib.hid (hI.out.rk_ok hq.out)
      have k5 := Lib.hid (pprim_any B G tv ts en ov d _ _ kA hF 2 at_ z w3 nvr _ hx3)
      go_wp2_with fail
      refine k5.out.mono ?_
      rintro e5 w5 ⟨a5, nv5, rfl, hp5, hs5, hv5⟩
      have hI5 := Lib.hid (hI.out.rk_u hm.out hq.out (hS3.out.trans hs5) (by rw [hat.out]; exact hp5) (by rw [hat.out]; exact hv5))
      clear k5 hp5 hs5 hv5 hS3 hx3
      go_wp2_with fail
      go_roundg (gk - 1)
      case measure => obtain ⟨_, _, _, hk⟩ := hk0.out; omega
      case rel => exact ⟨a5, nv5, _, rfl, hI5⟩
theorem product_ex {B G : Nat} {tv : Value} {ts : List Tk} {en : Int} {ov : Value} {d : Int} {e : PS → Except PE (Nat × PS)} (he : Mono ts e) (kE : Hid (ExC B G tv ts en ov 29 d e)) : ExC B G tv ts en ov 87 d (productP ts en e) := fun w nv R h => pproduct_any B G tv ts en ov d e he kE w nv R (Lib.hid h)
set_option maxRecDepth 100000 in
set_option maxHeartbeats 4000000 in
theorem psum_any (B G : Nat) (tv : Value) (ts : List Tk) (en : Int) (ov : Value) (d : Int) (e : PS → Except PE (Nat × PS)) (he : Mono ts e) (kE : Hid (ExC B G tv ts en ov 29 d e)) (w : World) (nv : Value) (R : Except PE PS) (h : Hid (PqX B G tv ts en ov d w nv R)) :
    Calls Tryz.prog 83 #[.pointer (some ⟨G, 0, none⟩)] w (PqN B G tv ts en ov d w nv (R >>= sumP ts en e)) := by
  have kA := Lib.hid (product_ex he kE)
  have k1 := Lib.hid (kA.out w nv R h.out)
  have hm := Lib.hid (productP_fwd (en := en) he)
  have hF : Hid (∀ (xs : Array Value) (W : World), (callFunc 87 xs).run Tryz.prog W = .ok (.enter 87 xs) W) := Lib.hid fun _ _ => by kernel_rfl
  go_enter Tryz.func83, Tryz.ntmps83
  go_wp2_with fail
  refine k1.out.mono ?_
  rintro e1 w1 ⟨v1, nv1, rfl, hp1, hs1, hv1⟩
  have hI0 : Hid (LpI B G tv ts en ov d w nv (R >>= sumP ts en e) (rankLoop ts en sgAdd sgSub 0 1 (productP ts en e)) (ts.length + 1) v1 w1 nv1 (R >>= productP ts en e)) := Lib.hid ⟨hp1, hs1, fun n st hr => ⟨hv1 n st hr, hp1.le n st hr, by omega⟩, rk_start fun st => rfl⟩
  clear k1 hp1 hs1 hv1
  go_wp2_with fail
  go_loopg [3, 4] (ts.length + 1) (fun k lv av wr => ∃ (z : Int) (nvr : Value) (Rr : Except PE (Nat × PS)), lv = .int .i64 z ∧ Hid (LpI B G tv ts en ov d w nv (R >>= sumP ts en e) (rankLoop ts en sgAdd sgSub 0 1 (productP ts en e)) k z wr nvr Rr))
  case atStart => exact ⟨v1, nv1, _, rfl, hI0⟩
  case round =>
    obtain ⟨z, nvr, Rr, rfl, hI⟩ := hrel
    clear hI0
    have k2 := Lib.hid (place_any B G tv ts en ov d wr nvr _ (Lib.hid hI.out.x))
    obtain ⟨at_, hat⟩ : ∃ b, (peekX ts en (stX Rr)).at_ = b := ⟨_, rfl⟩
    rw [hat] at k2
    have hat := Lib.hid hat
    go_wp2_with fail
    refine k2.out.mono ?_
    rintro e2 w2 ⟨rfl, hb2⟩
    have hx2 := Lib.hid (hI.out.x.below hb2)
    have hS2 := Lib.hid (hI.out.s.next hb2)
    clear k2 hb2
    have k3 := Lib.hid (skip_any B G tv ts en ov d w2 nvr _ sgAdd hx2)
    obtain ⟨q, hq⟩ : ∃ q, isX ts (stX Rr) sgAdd = q := ⟨_, rfl⟩
    rw [hq] at k3
    have hq := Lib.hid hq
    go_wp2_with fail
    refine k3.out.mono ?_
    rintro e3 w3 ⟨rfl, hx3, hb3⟩
    have hx3 := Lib.hid hx3
    have hS3 := Lib.hid (hS2.out.trans (Stp.of (nv := nvr) hb3))
    clear k3 hx2 hS2 hb3
    cases q
    · rw [take_no hq.out] at hx3
      have k4 := Lib.hid (skip_any B G tv ts en ov d w3 nvr _ sgSub hx3)
      obtain ⟨q2, hq2⟩ : ∃ q, isX ts (stX Rr) sgSub = q := ⟨_, rfl⟩
      rw [hq2] at k4
      have hq2 := Lib.hid hq2
      go_wp2_with fail
      refine k4.out.mono ?_
      rintro e4 w4 ⟨rfl, hx4, hb4⟩
      have hx4 := Lib.hid hx4
      have hS4 := Lib.hid (hS3.out.trans (Stp.of (nv := nvr) hb4))
      clear k4 hx3 hS3 hb4
      cases q2
      · rw [take_no hq2.out] at hx4
        have hfin : Hid (PqN B G tv ts en ov d w nv (R >>= sumP ts en e) (.returned (.int .i64 z)) w4) := Lib.hid (by rw [← hI.out.rk_end hq.out hq2.out]; exact ⟨z, nvr, rfl, hx4.out, hS4.out, fun x st' hr => (hI.out.v x st' hr).1⟩)
        clear hI
        go_wp2_with fail
        go_ret
        exact hfin.out
      · have hk0 := Lib.hid (hI.out.rk_ok hq2.out)
        have k5 := Lib.hid (pprim_any B G tv ts en ov d _ _ kA hF 1 at_ z w4 nvr _ hx4)
        go_wp2_with fail
        refine k5.out.mono ?_
        rintro e5 w5 ⟨a5, nv5, rfl, hp5, hs5, hv5⟩
        have hI5 := Lib.hid (hI.out.rk_v hm.out hq.out hq2.out (hS4.out.trans hs5) (by rw [hat.out]; exact hp5) (by rw [hat.out]; exact hv5))
        clear k5 hp5 hs5 hv5 hS4 hx4
        go_wp2_with fail
        go_roundg (gk - 1)
        case measure => obtain ⟨_, _, _, hk⟩ := hk0.out; omega
        case rel => exact ⟨a5, nv5, _, rfl, hI5⟩
    · have hk0 := Lib.hid (hI.out.rk_ok hq.out)
      have k5 := Lib.hid (pprim_any B G tv ts en ov d _ _ kA hF 0 at_ z w3 nvr _ hx3)
      go_wp2_with fail
      refine k5.out.mono ?_
      rintro e5 w5 ⟨a5, nv5, rfl, hp5, hs5, hv5⟩
      have hI5 := Lib.hid (hI.out.rk_u hm.out hq.out (hS3.out.trans hs5) (by rw [hat.out]; exact hp5) (by rw [hat.out]; exact hv5))
      clear k5 hp5 hs5 hv5 hS3 hx3
      go_wp2_with fail
      go_roundg (gk - 1)
      case measure => obtain ⟨_, _, _, hk⟩ := hk0.out; omega
      case rel => exact ⟨a5, nv5, _, rfl, hI5⟩
theorem sum_ex {B G : Nat} {tv : Value} {ts : List Tk} {en : Int} {ov : Value} {d : Int} {e : PS → Except PE (Nat × PS)} (he : Mono ts e) (kE : Hid (ExC B G tv ts en ov 29 d e)) : ExC B G tv ts en ov 83 d (sumP ts en e) := fun w nv R h => psum_any B G tv ts en ov d e he kE w nv R (Lib.hid h)
end Go.Proofs.YtnhfbbognjdnpaaGreatDoor

/- The program's parser: a comparison, an expression's opening, and every depth. -/
namespace Go.Proofs.YtnhfbbognjdnpaaGreatDoor
open Go.RowKit
set_option linter.unusedVariables false
set_option linter.unusedSimpArgs false

section
variable {ts : List Tk} {en : Int} {e : PS → Except PE (Nat × PS)} {R : Except PE PS} {z : Int}
theorem cmp_u (hz : ∀ n st, (R >>= sumP ts en e) = .ok (n, st) → z = (n : Nat)) (hu : isX ts (stX (R >>= sumP ts en e)) sgEq2 = true) : (takeX ts (stX (R >>= sumP ts en e)) sgEq2 >>= primV ts en 4 (peekX ts en (stX (R >>= sumP ts en e))).at_ z (sumP ts en e)) = (R >>= compareP ts en e) := by
  rcases R with _ | st
  · cases hu
  have hz : ∀ n s1, sumP ts en e st = .ok (n, s1) → z = (n : Nat) := hz
  have hu : isX ts (stX (sumP ts en e st)) sgEq2 = true := hu
  show (takeX ts (stX (sumP ts en e st)) sgEq2 >>= primV ts en 4 (peekX ts en (stX (sumP ts en e st))).at_ z (sumP ts en e)) = compareP ts en e st
  unfold compareP
  rcases ha : sumP ts en e st with _ | ⟨n, s1⟩
  · rw [ha] at hu; cases hu
  rw [ha] at hu
  obtain rfl := hz _ _ ha
  have hu : isP ts s1.i sgEq2 = true := hu
  have hx0 : takeX ts (stX (.ok (n, s1) : Except PE (Nat × PS))) sgEq2 = .ok ⟨s1.i + 1, s1.ns⟩ := by
    show (if isP ts s1.i sgEq2 then _ else _) = _
    rw [if_pos hu]
  have hp0 : (peekX ts en (stX (.ok (n, s1) : Except PE (Nat × PS)))).at_ = hereP ts en s1.i := peek_here ts en s1
  rw [hx0, hp0]
  show primV ts en 4 (hereP ts en s1.i) n (sumP ts en e) ⟨s1.i + 1, s1.ns⟩ = (if isP ts s1.i sgEq2 then _ else _)
  rw [if_pos hu]
  rfl
theorem cmp_v (hz : ∀ n st, (R >>= sumP ts en e) = .ok (n, st) → z = (n : Nat)) (hu : isX ts (stX (R >>= sumP ts en e)) sgEq2 = false) (hv : isX ts (stX (R >>= sumP ts en e)) sgLess = true) : (takeX ts (stX (R >>= sumP ts en e)) sgLess >>= primV ts en 5 (peekX ts en (stX (R >>= sumP ts en e))).at_ z (sumP ts en e)) = (R >>= compareP ts en e) := by
  rcases R with _ | st
  · cases hv
  have hz : ∀ n s1, sumP ts en e st = .ok (n, s1) → z = (n : Nat) := hz
  have hu : isX ts (stX (sumP ts en e st)) sgEq2 = false := hu
  have hv : isX ts (stX (sumP ts en e st)) sgLess = true := hv
  show (takeX ts (stX (sumP ts en e st)) sgLess >>= primV ts en 5 (peekX ts en (stX (sumP ts en e st))).at_ z (sumP ts en e)) = compareP ts en e st
  unfold compareP
  rcases ha : sumP ts en e st with _ | ⟨n, s1⟩
  · rw [ha] at hv; cases hv
  rw [ha] at hu hv
  obtain rfl := hz _ _ ha
  have hu : isP ts s1.i sgEq2 = false := hu
  have hv : isP ts s1.i sgLess = true := hv
  have hx0 : takeX ts (stX (.ok (n, s1) : Except PE (Nat × PS))) sgLess = .ok ⟨s1.i + 1, s1.ns⟩ := by
    show (if isP ts s1.i sgLess then _ else _) = _
    rw [if_pos hv]
  have hp0 : (peekX ts en (stX (.ok (n, s1) : Except PE (Nat × PS)))).at_ = hereP ts en s1.i := peek_here ts en s1
  rw [hx0, hp0]
  show primV ts en 5 (hereP ts en s1.i) n (sumP ts en e) ⟨s1.i + 1, s1.ns⟩ = (if isP ts s1.i sgEq2 then _ else if isP ts s1.i sgLess then _ else _)
  rw [if_neg (by rw [hu]; decide), if_pos hv]
  rfl
theorem cmp_end (hu : isX ts (stX (R >>= sumP ts en e)) sgEq2 = false) (hv : isX ts (stX (R >>= sumP ts en e)) sgLess = false) : (R >>= sumP ts en e) = (R >>= compareP ts en e) := by
  rcases R with _ | st
  · rfl
  have hu : isX ts (stX (sumP ts en e st)) sgEq2 = false := hu
  have hv : isX ts (stX (sumP ts en e st)) sgLess = false := hv
  show sumP ts en e st = compareP ts en e st
  unfold compareP
  rcases ha : sumP ts en e st with _ | ⟨n, s1⟩
  · rfl
  rw [ha] at hu hv
  have hu : isP ts s1.i sgEq2 = false := hu
  have hv : isP ts s1.i sgLess = false := hv
  show _ = (if isP ts s1.i sgEq2 then _ else if isP ts s1.i sgLess then _ else _)
  rw [if_neg (by rw [hu]; decide), if_neg (by rw [hv]; decide)]
theorem op_fun (h0 : isX ts R kwFun = true) : (takeX ts R kwFun >>= funP ts en e (peekX ts en R).at_) = (R >>= openP ts en e) := by
  obtain ⟨st, rfl, _, hx⟩ := isX_ok h0
  have h0 : isP ts st.i kwFun = true := h0
  rw [hx, peek_here]
  show _ = openP ts en e st
  unfold openP
  rw [if_pos h0]
  rfl
theorem op_rec (h0 : isX ts R kwFun = false) (h1 : isX ts R kwLet = true) (h2 : isX ts (takeX ts R kwLet) kwRec = true) : (takeX ts (takeX ts R kwLet) kwRec >>= recP ts en e (peekX ts en R).at_) = (R >>= openP ts en e) := by
  obtain ⟨st, rfl, _, hx⟩ := isX_ok h1
  have h0 : isP ts st.i kwFun = false := h0
  have h1 : isP ts st.i kwLet = true := h1
  rw [hx] at h2 ⊢
  have h2 : isP ts (st.i + 1) kwRec = true := h2
  have hx2 : takeX ts (.ok ⟨st.i + 1, st.ns⟩) kwRec = .ok ⟨st.i + 2, st.ns⟩ := by
    show (if isP ts (st.i + 1) kwRec then _ else _) = _
    rw [if_pos h2]
  rw [hx2, peek_here]
  show _ = openP ts en e st
  unfold openP
  rw [if_neg (by rw [h0]; decide), if_pos h1, if_pos h2]
  rfl
theorem op_let (h0 : isX ts R kwFun = false) (h1 : isX ts R kwLet = true) (h2 : isX ts (takeX ts R kwLet) kwRec = false) : (takeX ts R kwLet >>= letP ts en e (peekX ts en R).at_) = (R >>= openP ts en e) := by
  obtain ⟨st, rfl, _, hx⟩ := isX_ok h1
  have h0 : isP ts st.i kwFun = false := h0
  have h1 : isP ts st.i kwLet = true := h1
  rw [hx] at h2 ⊢
  have h2 : isP ts (st.i + 1) kwRec = false := h2
  rw [peek_here]
  show _ = openP ts en e st
  unfold openP
  rw [if_neg (by rw [h0]; decide), if_pos h1, if_neg (by rw [h2]; decide)]
  rfl
theorem op_if (h0 : isX ts R kwFun = false) (h1 : isX ts R kwLet = false) (h2 : isX ts R kwIf = true) : (takeX ts R kwIf >>= ifP ts en e (peekX ts en R).at_) = (R >>= openP ts en e) := by
  obtain ⟨st, rfl, _, hx⟩ := isX_ok h2
  have h0 : isP ts st.i kwFun = false := h0
  have h1 : isP ts st.i kwLet = false := h1
  have h2 : isP ts st.i kwIf = true := h2
  rw [hx, peek_here]
  show _ = openP ts en e st
  unfold openP
  rw [if_neg (by rw [h0]; decide), if_neg (by rw [h1]; decide), if_pos h2]
  rfl
theorem op_cmp (h0 : isX ts R kwFun = false) (h1 : isX ts R kwLet = false) (h2 : isX ts R kwIf = false) : (R >>= compareP ts en e) = (R >>= openP ts en e) := by
  rcases R with _ | st
  · rfl
  have h0 : isP ts st.i kwFun = false := h0
  have h1 : isP ts st.i kwLet = false := h1
  have h2 : isP ts st.i kwIf = false := h2
  show _ = openP ts en e st
  unfold openP
  rw [if_neg (by rw [h0]; decide), if_neg (by rw [h1]; decide), if_neg (by rw [h2]; decide)]
  rfl
end
set_option maxRecDepth 100000 in
set_option maxHeartbeats 4000000 in
theorem pcompare_any (B G : Nat) (tv : Value) (ts : List Tk) (en : Int) (ov : Value) (d : Int) (e : PS → Except PE (Nat × PS)) (he : Mono ts e) (kE : Hid (ExC B G tv ts en ov 29 d e)) (w : World) (nv : Value) (R : Except PE PS) (h : Hid (PqX B G tv ts en ov d w nv R)) :
    Calls Tryz.prog 74 #[.pointer (some ⟨G, 0, none⟩)] w (PqN B G tv ts en ov d w nv (R >>= compareP ts en e)) := by
  have kA := Lib.hid (sum_ex he kE)
  have k1 := Lib.hid (kA.out w nv R h.out)
  have hF : Hid (∀ (xs : Array Value) (W : World), (callFunc 83 xs).run Tryz.prog W = .ok (.enter 83 xs) W) := Lib.hid fun _ _ => by kernel_rfl
  have cU := Lib.hid (fun z => cmp_u (ts := ts) (en := en) (e := e) (R := R) (z := z))
  have cV := Lib.hid (fun z => cmp_v (ts := ts) (en := en) (e := e) (R := R) (z := z))
  have cE := Lib.hid (cmp_end (ts := ts) (en := en) (e := e) (R := R))
  obtain ⟨T, hT⟩ : ∃ T, (R >>= compareP ts en e) = T := ⟨_, rfl⟩
  rw [hT] at cU cV cE ⊢
  obtain ⟨R1, hR1⟩ : ∃ T, (R >>= sumP ts en e) = T := ⟨_, rfl⟩
  rw [hR1] at k1 cU cV cE
  clear hT hR1
  go_enter Tryz.func74, Tryz.ntmps74
  go_wp2_with fail
  refine k1.out.mono ?_
  rintro e1 w1 ⟨z, nvr, rfl, hp1, hs1, hv1⟩
  have hv1 := Lib.hid hv1
  have hp1 := Lib.hid hp1
  have hs1 := Lib.hid hs1
  clear k1
  have k2 := Lib.hid (place_any B G tv ts en ov d w1 nvr _ hp1)
  obtain ⟨at_, hat⟩ : ∃ b, (peekX ts en (stX R1)).at_ = b := ⟨_, rfl⟩
  rw [hat] at k2 cU cV
  clear hat
  go_wp2_with fail
  refine k2.out.mono ?_
  rintro e2 w2 ⟨rfl, hb2⟩
  have hx2 := Lib.hid (hp1.out.below hb2)
  have hS2 := Lib.hid (hs1.out.next hb2)
  clear k2 hb2 hp1 hs1
  have k3 := Lib.hid (skip_any B G tv ts en ov d w2 nvr _ sgEq2 hx2)
  obtain ⟨q, hq⟩ : ∃ q, isX ts (stX R1) sgEq2 = q := ⟨_, rfl⟩
  rw [hq] at k3
  have hq := Lib.hid hq
  go_wp2_with fail
  refine k3.out.mono ?_
  rintro e3 w3 ⟨rfl, hx3, hb3⟩
  have hx3 := Lib.hid hx3
  have hS3 := Lib.hid (hS2.out.trans (Stp.of (nv := nvr) hb3))
  clear k3 hx2 hS2 hb3
  cases q
  · rw [take_no hq.out] at hx3
    have k4 := Lib.hid (skip_any B G tv ts en ov d w3 nvr _ sgLess hx3)
    obtain ⟨r, hr⟩ : ∃ q, isX ts (stX R1) sgLess = q := ⟨_, rfl⟩
    rw [hr] at k4
    have hr := Lib.hid hr
    go_wp2_with fail
    refine k4.out.mono ?_
    rintro e4 w4 ⟨rfl, hx4, hb4⟩
    have hx4 := Lib.hid hx4
    have hS4 := Lib.hid (hS3.out.trans (Stp.of (nv := nvr) hb4))
    clear k4 hx3 hS3 hb4
    cases r
    · rw [take_no hr.out] at hx4
      have hfin : Hid (PqN B G tv ts en ov d w nv T (.returned (.int .i64 z)) w4) := Lib.hid (by rw [← cE.out hq.out hr.out]; exact ⟨z, nvr, rfl, hx4.out, hS4.out, hv1.out⟩)
      clear cE cU cV
      go_wp2_with fail
      go_ret
      exact hfin.out
    · have hc := Lib.hid (cV.out z hv1.out hq.out hr.out)
      clear cE cU cV
      have k5 := Lib.hid (pprim_any B G tv ts en ov d _ _ kA hF 5 at_ z w4 nvr _ hx4)
      go_wp2_with fail
      refine k5.out.mono ?_
      rintro e5 w5 ⟨a5, nv5, rfl, hp5, hs5, hv5⟩
      have hfin : Hid (PqN B G tv ts en ov d w nv T (.returned (.int .i64 a5)) w5) := Lib.hid (by
        rw [hc.out] at hp5 hv5
        exact ⟨a5, nv5, rfl, hp5, hS4.out.trans hs5, hv5⟩)
      clear k5 hp5 hs5 hv5
      go_wp2_with fail
      go_ret
      exact hfin.out
  · have hc := Lib.hid (cU.out z hv1.out hq.out)
    clear cE cU cV
    have k5 := Lib.hid (pprim_any B G tv ts en ov d _ _ kA hF 4 at_ z w3 nvr _ hx3)
    go_wp2_with fail
    refine k5.out.mono ?_
    rintro e5 w5 ⟨a5, nv5, rfl, hp5, hs5, hv5⟩
    have hfin : Hid (PqN B G tv ts en ov d w nv T (.returned (.int .i64 a5)) w5) := Lib.hid (by
      rw [hc.out] at hp5 hv5
      exact ⟨a5, nv5, rfl, hp5, hS3.out.trans hs5, hv5⟩)
    clear k5 hp5 hs5 hv5
    go_wp2_with fail
    go_ret
    exact hfin.out
theorem compare_ex {B G : Nat} {tv : Value} {ts : List Tk} {en : Int} {ov : Value} {d : Int} {e : PS → Except PE (Nat × PS)} (he : Mono ts e) (kE : Hid (ExC B G tv ts en ov 29 d e)) : ExC B G tv ts en ov 74 d (compareP ts en e) := fun w nv R h => pcompare_any B G tv ts en ov d e he kE w nv R (Lib.hid h)
set_option maxRecDepth 100000 in
set_option maxHeartbeats 4000000 in
theorem popen_any (B G : Nat) (tv : Value) (ts : List Tk) (en : Int) (ov : Value) (d : Int) (e : PS → Except PE (Nat × PS)) (he : Mono ts e) (kE : Hid (ExC B G tv ts en ov 29 d e)) (w : World) (nv : Value) (R : Except PE PS) (h : Hid (PqX B G tv ts en ov d w nv R)) :
    Calls Tryz.prog 47 #[.pointer (some ⟨G, 0, none⟩)] w (PqN B G tv ts en ov d w nv (R >>= openP ts en e)) := by
  have kC := Lib.hid (compare_ex he kE)
  have cF := Lib.hid (op_fun (ts := ts) (en := en) (e := e) (R := R))
  have cR := Lib.hid (op_rec (ts := ts) (en := en) (e := e) (R := R))
  have cL := Lib.hid (op_let (ts := ts) (en := en) (e := e) (R := R))
  have cI := Lib.hid (op_if (ts := ts) (en := en) (e := e) (R := R))
  have cC := Lib.hid (op_cmp (ts := ts) (en := en) (e := e) (R := R))
  obtain ⟨T, hT⟩ : ∃ T, (R >>= openP ts en e) = T := ⟨_, rfl⟩
  rw [hT] at cF cR cL cI cC ⊢
  clear hT
  have k2 := Lib.hid (place_any B G tv ts en ov d w nv R h)
  obtain ⟨at_, hat⟩ : ∃ b, (peekX ts en R).at_ = b := ⟨_, rfl⟩
  rw [hat] at k2 cF cR cL cI
  clear hat
  obtain ⟨nvr, hnv⟩ : ∃ x, x = nv := ⟨nv, rfl⟩
  go_enter Tryz.func47, Tryz.ntmps47
  go_wp2_with fail
  refine k2.out.mono ?_
  rintro e2 w2 ⟨rfl, hb2⟩
  have hx2 : Hid (PqX B G tv ts en ov d w2 nvr R) := Lib.hid (by rw [hnv]; exact h.out.below hb2)
  have hS2 : Hid (Stp G w nv w2 nvr) := Lib.hid (by rw [hnv]; exact Stp.below hb2)
  clear k2 hb2 hnv
  have k3 := Lib.hid (skip_any B G tv ts en ov d w2 nvr _ kwFun hx2)
  obtain ⟨q, hq⟩ : ∃ q, isX ts R kwFun = q := ⟨_, rfl⟩
  rw [hq] at k3
  have hq := Lib.hid hq
  go_wp2_with fail
  refine k3.out.mono ?_
  rintro e3 w3 ⟨rfl, hx3, hb3⟩
  have hx3 := Lib.hid hx3
  have hS3 := Lib.hid (hS2.out.trans (Stp.of (nv := nvr) hb3))
  clear k3 hx2 hS2 hb3
  cases q
  · rw [take_no hq.out] at hx3
    have k4 := Lib.hid (skip_any B G tv ts en ov d w3 nvr _ kwLet hx3)
    obtain ⟨r, hr⟩ : ∃ q, isX ts R kwLet = q := ⟨_, rfl⟩
    rw [hr] at k4
    have hr := Lib.hid hr
    go_wp2_with fail
    refine k4.out.mono ?_
    rintro e4 w4 ⟨rfl, hx4, hb4⟩
    have hx4 := Lib.hid hx4
    have hS4 := Lib.hid (hS3.out.trans (Stp.of (nv := nvr) hb4))
    clear k4 hx3 hS3 hb4
    cases r
    · rw [take_no hr.out] at hx4
      have k5 := Lib.hid (skip_any B G tv ts en ov d w4 nvr _ kwIf hx4)
      obtain ⟨s, hs⟩ : ∃ q, isX ts R kwIf = q := ⟨_, rfl⟩
      rw [hs] at k5
      have hs := Lib.hid hs
      go_wp2_with fail
      refine k5.out.mono ?_
      rintro e5 w5 ⟨rfl, hx5, hb5⟩
      have hx5 := Lib.hid hx5
      have hS5 := Lib.hid (hS4.out.trans (Stp.of (nv := nvr) hb5))
      clear k5 hx4 hS4 hb5
      cases s
      · rw [take_no hs.out] at hx5
        have hc := Lib.hid (cC.out hq.out hr.out hs.out)
        clear cF cR cL cI cC
        have k6 := Lib.hid (kC.out w5 nvr _ hx5.out)
        go_wp2_with fail
        refine k6.out.mono ?_
        rintro e6 w6 ⟨a6, nv6, rfl, hp6, hs6, hv6⟩
        have hfin : Hid (PqN B G tv ts en ov d w nv T (.returned (.int .i64 a6)) w6) := Lib.hid (by
          rw [hc.out] at hp6 hv6
          exact ⟨a6, nv6, rfl, hp6, hS5.out.trans hs6, hv6⟩)
        clear k6 hp6 hs6 hv6
        go_wp2_with fail
        go_ret
        exact hfin.out
      · have hc := Lib.hid (cI.out hq.out hr.out hs.out)
        clear cF cR cL cI cC
        have k6 := Lib.hid (pif_any B G tv ts en ov d e kE at_ w5 nvr _ hx5)
        go_wp2_with fail
        refine k6.out.mono ?_
        rintro e6 w6 ⟨a6, nv6, rfl, hp6, hs6, hv6⟩
        have hfin : Hid (PqN B G tv ts en ov d w nv T (.returned (.int .i64 a6)) w6) := Lib.hid (by
          rw [hc.out] at hp6 hv6
          exact ⟨a6, nv6, rfl, hp6, hS5.out.trans hs6, hv6⟩)
        clear k6 hp6 hs6 hv6
        go_wp2_with fail
        go_ret
        exact hfin.out
    · have k5 := Lib.hid (skip_any B G tv ts en ov d w4 nvr _ kwRec hx4)
      obtain ⟨s, hs⟩ : ∃ q, isX ts (takeX ts R kwLet) kwRec = q := ⟨_, rfl⟩
      rw [hs] at k5
      have hs := Lib.hid hs
      go_wp2_with fail
      refine k5.out.mono ?_
      rintro e5 w5 ⟨rfl, hx5, hb5⟩
      have hx5 := Lib.hid hx5
      have hS5 := Lib.hid (hS4.out.trans (Stp.of (nv := nvr) hb5))
      clear k5 hx4 hS4 hb5
      cases s
      · rw [take_no hs.out] at hx5
        have hc := Lib.hid (cL.out hq.out hr.out hs.out)
        clear cF cR cL cI cC
        have k6 := Lib.hid (plet_any B G tv ts en ov d e kE at_ w5 nvr _ hx5)
        go_wp2_with fail
        refine k6.out.mono ?_
        rintro e6 w6 ⟨a6, nv6, rfl, hp6, hs6, hv6⟩
        have hfin : Hid (PqN B G tv ts en ov d w nv T (.returned (.int .i64 a6)) w6) := Lib.hid (by
          rw [hc.out] at hp6 hv6
          exact ⟨a6, nv6, rfl, hp6, hS5.out.trans hs6, hv6⟩)
        clear k6 hp6 hs6 hv6
        go_wp2_with fail
        go_ret
        exact hfin.out
      · have hc := Lib.hid (cR.out hq.out hr.out hs.out)
        clear cF cR cL cI cC
        have k6 := Lib.hid (prec_any B G tv ts en ov d e kE at_ w5 nvr _ hx5)
        go_wp2_with fail
        refine k6.out.mono ?_
        rintro e6 w6 ⟨a6, nv6, rfl, hp6, hs6, hv6⟩
        have hfin : Hid (PqN B G tv ts en ov d w nv T (.returned (.int .i64 a6)) w6) := Lib.hid (by
          rw [hc.out] at hp6 hv6
          exact ⟨a6, nv6, rfl, hp6, hS5.out.trans hs6, hv6⟩)
        clear k6 hp6 hs6 hv6
        go_wp2_with fail
        go_ret
        exact hfin.out
  · have hc := Lib.hid (cF.out hq.out)
    clear cF cR cL cI cC
    have k6 := Lib.hid (function_any B G tv ts en ov d e kE at_ w3 nvr _ hx3)
    go_wp2_with fail
    refine k6.out.mono ?_
    rintro e6 w6 ⟨a6, nv6, rfl, hp6, hs6, hv6⟩
    have hfin : Hid (PqN B G tv ts en ov d w nv T (.returned (.int .i64 a6)) w6) := Lib.hid (by
      rw [hc.out] at hp6 hv6
      exact ⟨a6, nv6, rfl, hp6, hS3.out.trans hs6, hv6⟩)
    clear k6 hp6 hs6 hv6
    go_wp2_with fail
    go_ret
    exact hfin.out
theorem open_ex {B G : Nat} {tv : Value} {ts : List Tk} {en : Int} {ov : Value} {d : Int} {e : PS → Except PE (Nat × PS)} (he : Mono ts e) (kE : Hid (ExC B G tv ts en ov 29 d e)) : ExC B G tv ts en ov 47 d (openP ts en e) := fun w nv R h => popen_any B G tv ts en ov d e he kE w nv R (Lib.hid h)
/-- an expression, at every depth. -/
theorem expr_at (B G : Nat) (tv : Value) (ts : List Tk) (en : Int) (ov : Value) : ∀ (r : Nat), r ≤ 40 → ExC B G tv ts en ov 29 (40 - (r : Int)) (exprP ts en r)
  | 0, _ => by simpa using expr_deep B G tv ts en ov
  | r + 1, hr => by
    have ih := expr_at B G tv ts en ov r (by omega)
    have e1 : (40 : Int) - (r : Nat) = (40 - ((r + 1 : Nat) : Int)) + 1 := by omega
    rw [e1] at ih
    exact expr_ex (Lib.hid (open_ex (exprP_fwd r) (Lib.hid ih))) (by omega) (by omega)
theorem pexpr_any (B G : Nat) (tv : Value) (ts : List Tk) (en : Int) (ov : Value) (w : World) (nv : Value) (R : Except PE PS) (h : Hid (PqX B G tv ts en ov 0 w nv R)) :
    Calls Tryz.prog 29 #[.pointer (some ⟨G, 0, none⟩)] w (PqN B G tv ts en ov 0 w nv (R >>= exprP ts en 40)) := by
  have k := expr_at B G tv ts en ov 40 (by omega)
  simp only [show (40 : Int) - (40 : Nat) = 0 from rfl] at k
  exact k w nv R h.out
end Go.Proofs.YtnhfbbognjdnpaaGreatDoor
