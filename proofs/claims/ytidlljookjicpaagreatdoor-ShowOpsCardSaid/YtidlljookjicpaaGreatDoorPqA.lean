/- The program's parser in memory; its small functions. -/
import Derived.Test.YtidlljookjicpaaGreatDoorPkA
import Derived.Deep.RegionLaw
import Derived.Deep.LoopGhost
import Derived.Test.YtidlljookjicpaaGreatDoorPaP
/- The program's parser in memory; its small functions. -/
/- The program's parser in memory; its small functions. -/
namespace Go.Proofs.YtidlljookjicpaaGreatDoor
open Go.RowKit
set_option linter.unusedVariables false
set_option linter.unusedSimpArgs false

/-- an error that says its number. -/
def ErIn (v : Value) (c : Int) : Prop := (c = 403 ∧ ∃ g, v = .iface 99 (.pointer (some ⟨g, 0, none⟩))) ∨ (c ≠ 403 ∧ v = .iface 27 (.int .i64 c))
/-- the type of what lies in a block. -/
def TyAt (w : World) (b : Nat) (T : TypeId) : Prop := ∃ arr fz, w.heap[b]? = some (.cells arr T fz)
theorem TyAt.bar {S : Nat → Prop} {w w' : World} {b : Nat} {T : TypeId} (h : TyAt w b T) (hb : Bar S w w') (hn : ¬ S b) : TyAt w' b T := by
  obtain ⟨arr, fz, h⟩ := h
  exact ⟨arr, fz, (hb.block b (Array.getElem?_eq_some_iff.1 h).1 hn).trans h⟩
theorem TyAt.set {w : World} {b : Nat} {T : TypeId} (h : TyAt w b T) (a : Addr) (v : Value) : TyAt (w.setCell a v) b T := by
  obtain ⟨arr, fz, h⟩ := h
  by_cases e : a.block = b
  · subst e
    refine ⟨if a.spot.isSome then arr else arr.setIfInBounds a.off v, fz, ?_⟩
    show (w.heap.modify a.block _)[a.block]? = _
    rw [Array.getElem?_modify, if_pos rfl, h]
    rfl
  · exact ⟨arr, fz, by
      show (w.heap.modify a.block _)[b]? = _
      rw [Array.getElem?_modify, if_neg e, h]⟩
theorem TyAt.ne {w : World} {b b' : Nat} {T T' : TypeId} (h : TyAt w b T) (h' : TyAt w b' T') (hT : T ≠ T') : b ≠ b' := by
  rintro rfl
  obtain ⟨_, _, h⟩ := h
  obtain ⟨_, _, h'⟩ := h'
  rw [h] at h'
  injection h' with h'
  injection h' with _ h' _
  exact hT h'
theorem TyAt.new (w : World) (arr : Array Value) (T : TypeId) : TyAt (w.alloc (.cells arr T)) w.heap.size T := ⟨arr, (0, 0), by show (w.heap.push _)[w.heap.size]? = _; simp⟩
/-- an error that says its place too, in a block of its own. -/
def EvIs (w : World) (G : Nat) (nv ov ev : Value) (e : PE) : Prop := ∃ F v, ev = .iface 73 (.pointer (some ⟨F, 0, none⟩)) ∧ F < w.heap.size ∧ F ≠ G ∧ nv.ownBlock ≠ some F ∧ ov.ownBlock ≠ some F ∧ w.cell? ⟨F, 0, none⟩ = some (.int .i64 e.2) ∧ w.cell? ⟨F, 1, none⟩ = some v ∧ ErIn v e.1 ∧ TyAt w F 77
structure PqW (B G : Nat) (tv : Value) (ts : List Tk) (en : Int) (ov : Value) (d : Int) (w : World) (nv : Value) (st : PS) (ev : Value) : Prop where
  t : w.cell? ⟨G, 0, none⟩ = some tv
  e : w.cell? ⟨G, 1, none⟩ = some (.int .i64 en)
  i : w.cell? ⟨G, 2, none⟩ = some (.int .i64 st.i)
  d : w.cell? ⟨G, 3, none⟩ = some (.int .i64 d)
  o : w.cell? ⟨G, 4, none⟩ = some ov
  n : w.cell? ⟨G, 5, none⟩ = some nv
  r : w.cell? ⟨G, 6, none⟩ = some ev
  gB : G < B
  bl : B ≤ w.heap.size
  fg : ∀ o, w.frozen? ⟨G, o, none⟩ = false
  tk : TkIn B G w tv ts
  own : OwnN B w nv st.ns
  il : st.i ≤ ts.length
  nl : st.ns.length ≤ 512
  tl : ts.length ≤ 1000000
  ol : ∀ k, ov.ownBlock = some k → k < w.heap.size
/-- a state, or the first error. -/
def PqX (B G : Nat) (tv : Value) (ts : List Tk) (en : Int) (ov : Value) (d : Int) (w : World) (nv : Value) (R : Except PE PS) : Prop := match R with
  | .ok st => PqW B G tv ts en ov d w nv st .nilIface
  | .error e => ∃ st ev, PqW B G tv ts en ov d w nv st ev ∧ EvIs w G nv ov ev e
section
variable {B G : Nat} {tv : Value} {ts : List Tk} {en : Int} {ov : Value} {d : Int} {w : World} {nv : Value}
theorem PqW.bar {S : Nat → Prop} {w' : World} {st : PS} {ev : Value} (h : PqW B G tv ts en ov d w nv st ev) (hb : Bar S w w') (hG : ¬ S G) (hB : ∀ k, k < B → k ≠ G → ¬ S k) (hn : ∀ k, nv.ownBlock = some k → ¬ S k) : PqW B G tv ts en ov d w' nv st ev :=
  ⟨hb.cell h.t hG, hb.cell h.e hG, hb.cell h.i hG, hb.cell h.d hG, hb.cell h.o hG, hb.cell h.n hG, hb.cell h.r hG, h.gB, by have := hb.size; have := h.bl; omega, fun o => by rw [hb.frozen (a := ⟨G, o, none⟩) (by have := h.gB; have := h.bl; show G < _; omega) hG]; exact h.fg o, h.tk.bar hb hB, Bar.own hb h.own hn, h.il, h.nl, h.tl, fun k hk => by have := h.ol k hk; have := hb.size; omega⟩
theorem PqW.below {w' : World} {st : PS} {ev : Value} (h : PqW B G tv ts en ov d w nv st ev) (hb : Below w.heap.size w w') : PqW B G tv ts en ov d w' nv st ev :=
  h.bar (Bar.of_below (S := fun _ => False) hb) id (fun _ _ _ => id) (fun _ _ => id)
theorem EvIs.bar {S : Nat → Prop} {w' : World} {nv' ev : Value} {e : PE} (h : EvIs w G nv ov ev e) (hb : Bar S w w') (hS : ∀ k, k ≠ G → nv.ownBlock ≠ some k → TyAt w k 77 → ¬ S k) (hn : ∀ g, nv'.ownBlock = some g → nv.ownBlock = some g ∨ w.heap.size ≤ g) : EvIs w' G nv' ov ev e := by
  obtain ⟨F, v, h1, h2, h3, h4, h5, h6, h7, h8, h9⟩ := h
  exact ⟨F, v, h1, by have := hb.size; omega, h3, fun hc => by rcases hn F hc with hc | hc; exact h4 hc; omega, h5, hb.cell h6 (hS F h3 h4 h9), hb.cell h7 (hS F h3 h4 h9), h8, h9.bar hb (hS F h3 h4 h9)⟩
theorem EvIs.below {w' : World} {ev : Value} {e : PE} (h : EvIs w G nv ov ev e) (hb : Below w.heap.size w w') : EvIs w' G nv ov ev e :=
  h.bar (Bar.of_below (S := fun _ => False) hb) (fun _ _ _ _ => id) (fun _ hg => .inl hg)
theorem PqX.below {w' : World} {R : Except PE PS} (h : PqX B G tv ts en ov d w nv R) (hb : Below w.heap.size w w') : PqX B G tv ts en ov d w' nv R := by
  cases R with
  | ok st => exact PqW.below h hb
  | error e => obtain ⟨st, ev, h1, h2⟩ := h; exact ⟨st, ev, h1.below hb, h2.below hb⟩
/-- a cell of the object that was written. -/
theorem PqW.setI {st : PS} {ev : Value} (h : PqW B G tv ts en ov d w nv st ev) (j : Nat) (hj : j ≤ ts.length) : PqW B G tv ts en ov d (w.setCell ⟨G, 2, none⟩ (.int .i64 j)) nv ⟨j, st.ns⟩ ev ∧ Bar (fun k => k = G) w (w.setCell ⟨G, 2, none⟩ (.int .i64 j)) := by
  have ne : ∀ a b : Nat, a ≠ b → (⟨G, a, none⟩ : Addr) ≠ ⟨G, b, none⟩ := fun a b hab e => by injection e with _ e2 _; exact hab e2
  have hb : Bar (fun k => k = G) w (w.setCell ⟨G, 2, none⟩ (.int .i64 j)) := Bar.set (S := fun k => k = G) ⟨G, 2, none⟩ _ rfl
  exact ⟨⟨setO h.t (ne _ _ (by decide)), setO h.e (ne _ _ (by decide)), setS h.i, setO h.d (ne _ _ (by decide)), setO h.o (ne _ _ (by decide)), setO h.n (ne _ _ (by decide)), setO h.r (ne _ _ (by decide)), h.gB, by simpa using h.bl, fun o => by simp only [World.frozen?_setCell]; exact h.fg o, h.tk.bar hb (fun k _ hk => hk), Bar.own hb h.own (fun k hk e => by have := (own_lt h.own k hk).1; have := h.gB; omega), hj, h.nl, h.tl, fun k hk => by have := h.ol k hk; simpa using this⟩, hb⟩
theorem PqW.setR {st : PS} {ev : Value} (h : PqW B G tv ts en ov d w nv st ev) (ev' : Value) : PqW B G tv ts en ov d (w.setCell ⟨G, 6, none⟩ ev') nv st ev' ∧ Bar (fun k => k = G) w (w.setCell ⟨G, 6, none⟩ ev') := by
  have ne : ∀ a b : Nat, a ≠ b → (⟨G, a, none⟩ : Addr) ≠ ⟨G, b, none⟩ := fun a b hab e => by injection e with _ e2 _; exact hab e2
  have hb : Bar (fun k => k = G) w (w.setCell ⟨G, 6, none⟩ ev') := Bar.set (S := fun k => k = G) ⟨G, 6, none⟩ _ rfl
  exact ⟨⟨setO h.t (ne _ _ (by decide)), setO h.e (ne _ _ (by decide)), setO h.i (ne _ _ (by decide)), setO h.d (ne _ _ (by decide)), setO h.o (ne _ _ (by decide)), setO h.n (ne _ _ (by decide)), setS h.r, h.gB, by simpa using h.bl, fun o => by simp only [World.frozen?_setCell]; exact h.fg o, h.tk.bar hb (fun k _ hk => hk), Bar.own hb h.own (fun k hk e => by have := (own_lt h.own k hk).1; have := h.gB; omega), h.il, h.nl, h.tl, fun k hk => by have := h.ol k hk; simpa using this⟩, hb⟩
end
/-- what a call did: the object and the row of nodes may be others. -/
def Stp (G : Nat) (w : World) (nv : Value) (w' : World) (nv' : Value) : Prop := Bar (PFr G nv) w w' ∧ PHop nv nv' w
theorem Stp.refl (G : Nat) (w : World) (nv : Value) : Stp G w nv w nv := ⟨Bar.refl _ _, fun _ hg => .inl hg⟩
theorem Stp.trans {G : Nat} {w w1 w2 : World} {nv nv1 nv2 : Value} (h : Stp G w nv w1 nv1) (h' : Stp G w1 nv1 w2 nv2) : Stp G w nv w2 nv2 :=
  ⟨h.1.trans h'.1 fun k hk hs => by
    rcases hs with hs | hs
    · exact .inl hs
    · rcases h.2 k hs with hg | hg
      · exact .inr hg
      · omega, fun g hg => by
    rcases h'.2 g hg with hg | hg
    · exact h.2 g hg
    · exact .inr (by have := h.1.size; omega)⟩
theorem Stp.of {G : Nat} {w w' : World} {nv : Value} (h : Bar (fun k => k = G) w w') : Stp G w nv w' nv := ⟨(Bar.refl (PFr G nv) w).trans h fun _ _ hs => .inl hs, fun _ hg => .inl hg⟩
theorem Stp.below {G : Nat} {w w' : World} {nv : Value} (h : Below w.heap.size w w') : Stp G w nv w' nv := ⟨Bar.of_below h, fun _ hg => .inl hg⟩
theorem Stp.next {G : Nat} {w w1 w2 : World} {nv nv1 : Value} (h : Stp G w nv w1 nv1) (hb : Below w1.heap.size w1 w2) : Stp G w nv w2 nv1 := h.trans (Stp.below hb)
/-- the next token; behind an error and at the end none of a text's. -/
def peekX (ts : List Tk) (en : Int) (R : Except PE PS) : Tk := match R with
  | .ok st => (ts[st.i]?).getD ⟨-1, [], 0, en⟩
  | .error _ => ⟨-1, [], 0, en⟩
theorem peek_ok (ts : List Tk) (en : Int) (st : PS) : peekX ts en (.ok st) = (ts[st.i]?).getD ⟨-1, [], 0, en⟩ := rfl
theorem peek_here (ts : List Tk) (en : Int) (st : PS) : (peekX ts en (.ok st)).at_ = hereP ts en st.i := by
  rw [peek_ok]; unfold hereP; cases ts[st.i]? <;> rfl
theorem peek_is (ts : List Tk) (en : Int) (R : Except PE PS) (u : List UInt8) : (((peekX ts en R).kind == 2 || (peekX ts en R).kind == 3) && (peekX ts en R).text == u) = isX ts R u := by
  cases R with
  | error e => simp [peekX, isX]
  | ok st =>
    show _ = isP ts st.i u
    rw [peek_ok]
    unfold isP
    cases ts[st.i]? with
    | none => simp
    | some t => rfl
/-- one goes on, if it is this word or sign. -/
def takeX (ts : List Tk) (R : Except PE PS) (u : List UInt8) : Except PE PS := match R with
  | .ok st => if isP ts st.i u then .ok ⟨st.i + 1, st.ns⟩ else .ok st
  | .error e => .error e
theorem take_no {ts : List Tk} {R : Except PE PS} {u : List UInt8} (h : isX ts R u = false) : takeX ts R u = R := by
  cases R with
  | error e => rfl
  | ok st => have h : isP ts st.i u = false := h; show (if isP ts st.i u then _ else _) = _; rw [if_neg (by rw [h]; decide)]
theorem want_no {ts : List Tk} {en : Int} {R : Except PE PS} {u : List UInt8} (h : isX ts R u = false) : (R >>= wantP ts en u) = failX ts en R 403 := by
  cases R with
  | error e => rfl
  | ok st => have h : isP ts st.i u = false := h; show (if isP ts st.i u then _ else _) = _; rw [if_neg (by rw [h]; decide)]; rfl
theorem want_yes {ts : List Tk} {en : Int} {R : Except PE PS} {u : List UInt8} (h : isX ts R u = true) : (R >>= wantP ts en u) = takeX ts R u := by
  cases R with
  | error e => rfl
  | ok st => have h : isP ts st.i u = true := h; show (if isP ts st.i u then _ else _) = (if isP ts st.i u then _ else _); rw [if_pos h, if_pos h]
theorem isX_ok {ts : List Tk} {R : Except PE PS} {u : List UInt8} (h : isX ts R u = true) : ∃ st, R = .ok st ∧ st.i < ts.length ∧ takeX ts R u = .ok ⟨st.i + 1, st.ns⟩ := by
  cases R with
  | error e => cases h
  | ok st => have h : isP ts st.i u = true := h; exact ⟨st, rfl, isP_lt h, by show (if isP ts st.i u then _ else _) = _; rw [if_pos h]⟩
end Go.Proofs.YtidlljookjicpaaGreatDoor

/- The program's parser: the small functions. -/
namespace Go.Proofs.YtidlljookjicpaaGreatDoor
open Go.RowKit
set_option linter.unusedVariables false
set_option linter.unusedSimpArgs false

theorem err_eql (t : TypeId) (u : Value) (W : World) : (binOp .eql 61 (.iface t u) .nilIface).run Tryz.prog W = .ok (.bool false) W := by kernel_rfl
theorem nil_eql (W : World) : (binOp .eql 61 .nilIface .nilIface).run Tryz.prog W = .ok (.bool true) W := by kernel_rfl
theorem tkf0 (a b c d : Value) (W : World) : (Instr.field 125 (.agg #[a, b, c, d]) 0).run Tryz.prog W = .ok a W := by kernel_rfl
theorem tkf1 (a b c d : Value) (W : World) : (Instr.field 125 (.agg #[a, b, c, d]) 1).run Tryz.prog W = .ok b W := by kernel_rfl
theorem tkf2 (a b c d : Value) (W : World) : (Instr.field 125 (.agg #[a, b, c, d]) 2).run Tryz.prog W = .ok c W := by kernel_rfl
theorem tkf3 (a b c d : Value) (W : World) : (Instr.field 125 (.agg #[a, b, c, d]) 3).run Tryz.prog W = .ok d W := by kernel_rfl
/-- a result's own cells, then. -/
theorem pk_box (w W : World) (n : Nat) (hW : (w.alloc (.cells #[.int .i64 0, .string ⟨#[]⟩, .int .i64 0, .int .i64 0] 125)).drewN n = W) : W.cell? ⟨w.heap.size, 0, none⟩ = some (.int .i64 0) ∧ W.cell? ⟨w.heap.size, 1, none⟩ = some (.string ⟨#[]⟩) ∧ W.cell? ⟨w.heap.size, 2, none⟩ = some (.int .i64 0) ∧ W.cell? ⟨w.heap.size, 3, none⟩ = some (.int .i64 0) ∧ (∀ o, W.frozen? ⟨w.heap.size, o, none⟩ = false) ∧ Below w.heap.size w W ∧ w.heap.size < W.heap.size := by
  subst hW
  have hb := below_drewN (below_alc w (.cells #[.int .i64 0, .string ⟨#[]⟩, .int .i64 0, .int .i64 0] 125)) n
  refine ⟨?_, ?_, ?_, ?_, fun o => ?_, hb, ?_⟩
  · simp [go_sem]
  · simp [go_sem]
  · simp [go_sem]
  · simp [go_sem]
  · simp [go_sem]
  · simp [go_sem]
set_option maxRecDepth 100000 in
set_option maxHeartbeats 2000000 in
theorem peek_no (B G : Nat) (tv : Value) (ts : List Tk) (en : Int) (ov : Value) (d : Int) (w : World) (nv : Value) (st : PS) (F : Nat) (h : Hid (PqW B G tv ts en ov d w nv st (.iface 73 (.pointer (some ⟨F, 0, none⟩))))) :
    Calls Tryz.prog 81 #[.pointer (some ⟨G, 0, none⟩)] w fun e w' => e = .returned (tkV ⟨-1, [], 0, en⟩) ∧ Below w.heap.size w w' := by
  have h1 := h.out.r
  have hgl : G < w.heap.size := by have := h.out.gB; have := h.out.bl; omega
  have h2 := h.out.e
  have hn0 := fun (u : Value) (W : World) => err_eql 73 u W
  have hn1 := nil_eql
  go_enter Tryz.func81, Tryz.ntmps81
  go_wp2_with fail
  go_quiet (fail)
  obtain ⟨W0, hW0⟩ : ∃ W, (w.alloc (.cells #[.int .i64 0, .string ⟨#[]⟩, .int .i64 0, .int .i64 0] 125)).drewN nq = W := ⟨_, rfl⟩
  obtain ⟨x0, x1, x2, x3, x4, x5, x6⟩ := pk_box w W0 nq hW0
  rw [hW0]
  clear hW0
  have h5 := Lib.hid (h.out.below x5)
  have h6 := h5.out.e
  have hgl2 : G < W0.heap.size := by omega
  go_wp2_with fail
  refine bodyPost_ret (v := tkV ⟨-1, [], 0, en⟩) (by simp [results, Tryz.results81, go_sem, tkV, bs, x0, x1, x2, x3]) rfl ⟨rfl, by (repeat' (first | with_reducible exact Below.refl _ _ | with_reducible assumption | with_reducible apply Below.setCell | with_reducible apply Below.alloc | with_reducible apply Below.drew | with_reducible apply below_drewN | with_reducible exact Nat.le_refl _ | (simp; done) | (simp; omega) | omega | exact Nat.le_refl _))⟩
set_option maxRecDepth 100000 in
set_option maxHeartbeats 2000000 in
theorem peek_at (B G : Nat) (tv : Value) (ts : List Tk) (en : Int) (ov : Value) (d : Int) (w : World) (nv : Value) (st : PS) (h : Hid (PqW B G tv ts en ov d w nv st .nilIface)) (hlt : st.i < ts.length) :
    Calls Tryz.prog 81 #[.pointer (some ⟨G, 0, none⟩)] w fun e w' => e = .returned (tkV (ts.getD st.i tk0)) ∧ Below w.heap.size w w' := by
  have h1 := h.out.r
  have hgl : G < w.heap.size := by have := h.out.gB; have := h.out.bl; omega
  have h2 := h.out.i
  have h3 := h.out.t
  obtain ⟨T, c, rfl, hT, ⟨a0, a1, a2, a3⟩, _⟩ := tk_get h.out.tk hlt
  simp only [Nat.zero_add] at a0 a1 a2 a3
  generalize ts.getD st.i tk0 = t at a0 a1 a2 a3
  have hj1 : (st.i : Int) < (ts.length : Int) := by omega
  have hj0 : (0 : Int) ≤ (st.i : Int) := by omega
  clear hlt
  have hn0 := fun (u : Value) (W : World) => err_eql 73 u W
  have hn1 := nil_eql
  go_enter Tryz.func81, Tryz.ntmps81
  go_wp2_with fail
  go_quiet (fail)
  obtain ⟨W0, hW0⟩ : ∃ W, (w.alloc (.cells #[.int .i64 0, .string ⟨#[]⟩, .int .i64 0, .int .i64 0] 125)).drewN nq = W := ⟨_, rfl⟩
  obtain ⟨x0, x1, x2, x3, x4, x5, x6⟩ := pk_box w W0 nq hW0
  rw [hW0]
  clear hW0
  have h5 := Lib.hid (h.out.below x5)
  have q0 : W0.cell? _ = _ := carry x5 hT a0
  have q1 : W0.cell? _ = _ := carry x5 hT a1
  have q2 : W0.cell? _ = _ := carry x5 hT a2
  have q3 : W0.cell? _ = _ := carry x5 hT a3
  have h6 := h5.out.i; have h7 := h5.out.t
  have hgl2 : G < W0.heap.size := by omega
  have hT2 : T < W0.heap.size := by omega
  go_wp2_with fail
  go_region
  go_wp2_with fail
  refine bodyPost_ret (v := tkV t) (by simp [results, Tryz.results81, go_sem, tkV, bs, x0, x1, x2, x3]) rfl ⟨rfl, by (repeat' (first | with_reducible exact Below.refl _ _ | with_reducible assumption | with_reducible apply Below.setCell | with_reducible apply Below.alloc | with_reducible apply Below.drew | with_reducible apply below_drewN | with_reducible exact Nat.le_refl _ | (simp; done) | (simp; omega) | omega | exact Nat.le_refl _))⟩
set_option maxRecDepth 100000 in
set_option maxHeartbeats 2000000 in
theorem peek_end (B G : Nat) (tv : Value) (ts : List Tk) (en : Int) (ov : Value) (d : Int) (w : World) (nv : Value) (st : PS) (h : Hid (PqW B G tv ts en ov d w nv st .nilIface)) (hlt : ¬ st.i < ts.length) :
    Calls Tryz.prog 81 #[.pointer (some ⟨G, 0, none⟩)] w fun e w' => e = .returned (tkV ⟨-1, [], 0, en⟩) ∧ Below w.heap.size w w' := by
  have h1 := h.out.r
  have hgl : G < w.heap.size := by have := h.out.gB; have := h.out.bl; omega
  have h2 := h.out.i
  have h3 := h.out.t
  have h4 := h.out.e
  obtain ⟨a, c, rfl⟩ := tk_len h.out.tk
  have hj1 : ¬ (st.i : Int) < (ts.length : Int) := by omega
  clear hlt
  have hn0 := fun (u : Value) (W : World) => err_eql 73 u W
  have hn1 := nil_eql
  go_enter Tryz.func81, Tryz.ntmps81
  go_wp2_with fail
  go_quiet (fail)
  obtain ⟨W0, hW0⟩ : ∃ W, (w.alloc (.cells #[.int .i64 0, .string ⟨#[]⟩, .int .i64 0, .int .i64 0] 125)).drewN nq = W := ⟨_, rfl⟩
  obtain ⟨x0, x1, x2, x3, x4, x5, x6⟩ := pk_box w W0 nq hW0
  rw [hW0]
  clear hW0
  have h5 := Lib.hid (h.out.below x5)
  have h6 := h5.out.e
  have hgl2 : G < W0.heap.size := by omega
  go_wp2_with fail
  refine bodyPost_ret (v := tkV ⟨-1, [], 0, en⟩) (by simp [results, Tryz.results81, go_sem, tkV, bs, x0, x1, x2, x3]) rfl ⟨rfl, by (repeat' (first | with_reducible exact Below.refl _ _ | with_reducible assumption | with_reducible apply Below.setCell | with_reducible apply Below.alloc | with_reducible apply Below.drew | with_reducible apply below_drewN | with_reducible exact Nat.le_refl _ | (simp; done) | (simp; omega) | omega | exact Nat.le_refl _))⟩
theorem peek_any (B G : Nat) (tv : Value) (ts : List Tk) (en : Int) (ov : Value) (d : Int) (w : World) (nv : Value) (R : Except PE PS) (h : Hid (PqX B G tv ts en ov d w nv R)) :
    Calls Tryz.prog 81 #[.pointer (some ⟨G, 0, none⟩)] w fun e w' => e = .returned (tkV (peekX ts en R)) ∧ Below w.heap.size w w' := by
  cases R with
  | error e =>
    obtain ⟨st, ev, h1, F, v, rfl, _⟩ := h.out
    exact peek_no B G tv ts en ov d w nv st _ (Lib.hid h1)
  | ok st =>
    have h1 : PqW B G tv ts en ov d w nv st .nilIface := h.out
    rw [peek_ok]
    by_cases hlt : st.i < ts.length
    · obtain ⟨_, _, _, _, _, hg⟩ := tk_get h1.tk hlt
      simp only [hg, Option.getD_some]
      exact peek_at B G tv ts en ov d w nv st (Lib.hid h1) hlt
    · rw [List.getElem?_eq_none (by omega)]
      exact peek_end B G tv ts en ov d w nv st (Lib.hid h1) hlt
set_option maxRecDepth 100000 in
set_option maxHeartbeats 2000000 in
theorem place_any (B G : Nat) (tv : Value) (ts : List Tk) (en : Int) (ov : Value) (d : Int) (w : World) (nv : Value) (R : Except PE PS) (h : Hid (PqX B G tv ts en ov d w nv R)) :
    Calls Tryz.prog 86 #[.pointer (some ⟨G, 0, none⟩)] w fun e w' => e = .returned (.int .i64 (peekX ts en R).at_) ∧ Below w.heap.size w w' := by
  have k := Lib.hid (peek_any B G tv ts en ov d w nv R h)
  generalize peekX ts en R = t at k
  unfold tkV at k
  have f3 := tkf3
  go_enter Tryz.func86, Tryz.ntmps86
  go_wp2_with fail
  refine k.out.mono ?_
  rintro e w1 ⟨rfl, hb⟩
  clear k
  go_wp2_with fail
  go_ret
  exact ⟨rfl, hb⟩
set_option maxRecDepth 100000 in
set_option maxHeartbeats 2000000 in
theorem is_any (B G : Nat) (tv : Value) (ts : List Tk) (en : Int) (ov : Value) (d : Int) (w : World) (nv : Value) (R : Except PE PS) (u : List UInt8) (h : Hid (PqX B G tv ts en ov d w nv R)) :
    Calls Tryz.prog 52 #[.pointer (some ⟨G, 0, none⟩), .string (bs u)] w fun e w' => e = .returned (.bool (isX ts R u)) ∧ Below w.heap.size w w' := by
  have k := Lib.hid (peek_any B G tv ts en ov d w nv R h)
  rw [← peek_is ts en R u]
  generalize peekX ts en R = t at k ⊢
  unfold tkV at k
  obtain ⟨tk, tx, tn, ta⟩ := t
  dsimp only at k ⊢
  have f0 := tkf0; have f1 := tkf1
  obtain ⟨q, hq⟩ : ∃ q, (tx == u) = q := ⟨_, rfl⟩
  rw [hq]
  go_enter Tryz.func52, Tryz.ntmps52
  go_wp2_with fail
  refine k.out.mono ?_
  rintro e w1 ⟨rfl, hb⟩
  clear k
  have hb := Lib.hid hb
  have he : ((bs tx).toList == (bs u).toList) = q := by rw [ByteArray.toList_eq, ByteArray.toList_eq]; exact hq
  by_cases h2 : tk = 2
  · subst h2
    clear hq
    go_wp2_with fail
    go_ret
    exact ⟨by cases q <;> rfl, belA _ hb.out⟩
  by_cases h3 : tk = 3
  · subst h3
    clear hq h2
    go_wp2_with fail
    go_ret
    exact ⟨by cases q <;> rfl, belA _ hb.out⟩
  have e2 : (tk == 2) = false := beq_eq_false_iff_ne.2 h2
  have e3 : (tk == 3) = false := beq_eq_false_iff_ne.2 h3
  clear hq h2 h3
  go_wp2_with fail
  go_ret
  exact ⟨by rw [e2, e3]; rfl, belA _ hb.out⟩
end Go.Proofs.YtidlljookjicpaaGreatDoor

/- The program's parser: fail, skip, take. -/
namespace Go.Proofs.YtidlljookjicpaaGreatDoor
open Go.RowKit
set_option linter.unusedVariables false
set_option linter.unusedSimpArgs false

/-- what a call of the small ones leaves. -/
def PqP (B G : Nat) (tv : Value) (ts : List Tk) (en : Int) (ov : Value) (d : Int) (w : World) (nv : Value) (R : Except PE PS) (w' : World) : Prop := PqX B G tv ts en ov d w' nv R ∧ Bar (fun k => k = G) w w'
set_option maxRecDepth 100000 in
set_option maxHeartbeats 2000000 in
theorem fail_ok (B G : Nat) (tv : Value) (ts : List Tk) (en : Int) (ov : Value) (d : Int) (w : World) (nv : Value) (st : PS) (c : Int) (T : TypeId) (pv : Value) (hv : ErIn (.iface T pv) c) (h : Hid (PqW B G tv ts en ov d w nv st .nilIface)) :
    Calls Tryz.prog 55 #[.pointer (some ⟨G, 0, none⟩), .iface T pv] w fun e w' => e = .returned (.tuple #[]) ∧ PqP B G tv ts en ov d w nv (.error (c, hereP ts en st.i)) w' := by
  have k := Lib.hid (place_any B G tv ts en ov d w nv (.ok st) (Lib.hid h.out))
  rw [peek_here] at k
  have h1 := h.out.r
  have hn0 := fun (u : Value) (W : World) => err_eql 73 u W
  have hn1 := nil_eql
  go_enter Tryz.func55, Tryz.ntmps55
  go_wp2_with fail
  refine k.out.mono ?_
  rintro e w1 ⟨rfl, hb⟩
  clear k h1
  have hb := Lib.hid hb
  have h2 := Lib.hid (h.out.below hb.out)
  have hr := h2.out.r
  have hf := h2.out.fg
  have hgl : G < w1.heap.size := by have := h2.out.gB; have := h2.out.bl; omega
  go_wp2_with fail
  go_end0
  obtain ⟨h4, h5⟩ := h2.out.setR (.iface 73 (.pointer (some ⟨w1.heap.size, 0, none⟩)))
  have hc : ∀ (i : Nat) (u : Value), (#[.int .i64 (hereP ts en st.i), .iface T pv] : Array Value)[i]? = some u → ((w1.setCell ⟨G, 6, none⟩ (.iface 73 (.pointer (some ⟨w1.heap.size, 0, none⟩)))).alloc (.cells #[.int .i64 (hereP ts en st.i), .iface T pv] 77)).cell? ⟨w1.heap.size, i, none⟩ = some u := fun i u hu => by
    rw [World.cell?_alloc_at _ _ _ _ (by simp)]; exact hu
  refine ⟨rfl, ⟨st, _, h4.below (below_alc _ _), w1.heap.size, .iface T pv, rfl, by simp, by omega, fun e => by have := (own_lt h2.out.own _ e).2; omega, fun e => by have := h2.out.ol _ e; omega, hc 0 _ rfl, hc 1 _ rfl, hv, by have k := TyAt.new (w1.setCell ⟨G, 6, none⟩ (.iface 73 (.pointer (some ⟨w1.heap.size, 0, none⟩)))) #[.int .i64 (hereP ts en st.i), .iface T pv] 77; simpa using k⟩, ?_⟩
  exact ((Bar.of_below (S := fun k => k = G) hb.out).trans h5 fun _ _ hs => hs).next (below_alc _ _)
set_option maxRecDepth 100000 in
set_option maxHeartbeats 2000000 in
theorem fail_err (B G : Nat) (tv : Value) (ts : List Tk) (en : Int) (ov : Value) (d : Int) (w : World) (nv : Value) (T : TypeId) (pv : Value) (e : PE) (h : Hid (PqX B G tv ts en ov d w nv (.error e))) :
    Calls Tryz.prog 55 #[.pointer (some ⟨G, 0, none⟩), .iface T pv] w fun e' w' => e' = .returned (.tuple #[]) ∧ PqP B G tv ts en ov d w nv (.error e) w' := by
  obtain ⟨st, ev, h2, F, v, rfl, _⟩ := h.out
  have h1 := h2.r
  clear h2
  have hn0 := fun (u : Value) (W : World) => err_eql 73 u W
  have hn1 := nil_eql
  go_enter Tryz.func55, Tryz.ntmps55
  go_wp2_with fail
  go_end0
  exact ⟨rfl, h.out, Bar.refl _ _⟩
theorem pfail_any (B G : Nat) (tv : Value) (ts : List Tk) (en : Int) (ov : Value) (d : Int) (w : World) (nv : Value) (R : Except PE PS) (c : Int) (T : TypeId) (pv : Value) (hv : ErIn (.iface T pv) c) (h : Hid (PqX B G tv ts en ov d w nv R)) :
    Calls Tryz.prog 55 #[.pointer (some ⟨G, 0, none⟩), .iface T pv] w fun e w' => e = .returned (.tuple #[]) ∧ PqP B G tv ts en ov d w nv (failX ts en R c) w' := by
  cases R with
  | error e => exact fail_err B G tv ts en ov d w nv T pv e h
  | ok st => exact fail_ok B G tv ts en ov d w nv st c T pv hv (Lib.hid h.out)
set_option maxRecDepth 100000 in
set_option maxHeartbeats 2000000 in
theorem skip_any (B G : Nat) (tv : Value) (ts : List Tk) (en : Int) (ov : Value) (d : Int) (w : World) (nv : Value) (R : Except PE PS) (u : List UInt8) (h : Hid (PqX B G tv ts en ov d w nv R)) :
    Calls Tryz.prog 104 #[.pointer (some ⟨G, 0, none⟩), .string (bs u)] w fun e w' => e = .returned (.bool (isX ts R u)) ∧ PqP B G tv ts en ov d w nv (takeX ts R u) w' := by
  have k := Lib.hid (is_any B G tv ts en ov d w nv R u h)
  obtain ⟨q, hq⟩ : ∃ q, isX ts R u = q := ⟨_, rfl⟩
  rw [hq] at k ⊢
  go_enter Tryz.func104, Tryz.ntmps104
  cases q
  · have hn := take_no hq
    rw [hn]
    clear hn hq
    go_wp2_with fail
    refine k.out.mono ?_
    rintro e w1 ⟨rfl, hb⟩
    have hb := Lib.hid hb
    clear k
    go_wp2_with fail
    go_ret
    exact ⟨rfl, h.out.below hb.out, Bar.of_below hb.out⟩
  · obtain ⟨st, rfl, hi, hn⟩ := isX_ok hq
    rw [hn]
    clear hn hq
    have hi := Lib.hid hi
    go_wp2_with fail
    refine k.out.mono ?_
    rintro e w1 ⟨rfl, hb⟩
    have hb := Lib.hid hb
    clear k
    have h2 := Lib.hid (PqW.below (show PqW B G tv ts en ov d w nv st .nilIface from h.out) hb.out)
    have h3 := h2.out.i
    have hf := h2.out.fg
    have hgl : G < w1.heap.size := by have := h2.out.gB; have := h2.out.bl; omega
    have hr1 : (st.i : Int) ≤ 1000000 := by have := h2.out.il; have := h2.out.tl; omega
    have hr0 : (0 : Int) ≤ (st.i : Int) := by omega
    go_wp2_with fail
    go_ret
    have h4 := h2.out.setI (st.i + 1) hi.out
    push_cast at h4
    exact ⟨rfl, h4.1, (Bar.of_below (S := fun k => k = G) hb.out).trans h4.2 fun _ _ hs => hs⟩
theorem wanted_in (g : Nat) : ErIn (.iface 99 (.pointer (some ⟨g, 0, none⟩))) 403 := .inl ⟨rfl, g, rfl⟩
set_option maxRecDepth 100000 in
set_option maxHeartbeats 2000000 in
theorem take_any (B G : Nat) (tv : Value) (ts : List Tk) (en : Int) (ov : Value) (d : Int) (w : World) (nv : Value) (R : Except PE PS) (u : List UInt8) (h : Hid (PqX B G tv ts en ov d w nv R)) :
    Calls Tryz.prog 82 #[.pointer (some ⟨G, 0, none⟩), .string (bs u)] w fun e w' => e = .returned (.tuple #[]) ∧ PqP B G tv ts en ov d w nv (R >>= wantP ts en u) w' := by
  have k := Lib.hid (skip_any B G tv ts en ov d w nv R u h)
  obtain ⟨q, hq⟩ : ∃ q, isX ts R u = q := ⟨_, rfl⟩
  rw [hq] at k
  go_enter Tryz.func82, Tryz.ntmps82
  cases q
  · rw [take_no hq] at k
    rw [want_no hq]
    clear hq
    go_wp2_with fail
    refine k.out.mono ?_
    rintro e w1 ⟨rfl, h2⟩
    have h2 := Lib.hid h2
    clear k
    have k2 := Lib.hid (pfail_any B G tv ts en ov d _ nv R 403 _ _ (wanted_in w1.heap.size) (Lib.hid (h2.out.1.below (below_alc w1 (.cells #[.string (bs u)] 101)))))
    go_wp2_with fail
    refine k2.out.mono ?_
    rintro e w2 ⟨rfl, h3⟩
    have h3 := Lib.hid h3
    clear k2
    go_wp2_with fail
    go_end0
    exact ⟨rfl, h3.out.1, (h2.out.2.next (below_alc w1 _)).trans h3.out.2 fun _ _ hs => hs⟩
  · rw [want_yes hq]
    clear hq
    go_wp2_with fail
    refine k.out.mono ?_
    rintro e w1 ⟨rfl, h2⟩
    have h2 := Lib.hid h2
    clear k
    go_wp2_with fail
    go_end0
    exact ⟨rfl, h2.out⟩
end Go.Proofs.YtidlljookjicpaaGreatDoor

/- The program's parser: a name, a node. -/
namespace Go.Proofs.YtidlljookjicpaaGreatDoor
open Go.RowKit
set_option linter.unusedVariables false
set_option linter.unusedSimpArgs false

theorem name_no {ts : List Tk} {en : Int} {R : Except PE PS} (h : (peekX ts en R).kind ≠ 0) : stX (R >>= nameP ts en) = failX ts en R 403 ∧ ∀ y st', (R >>= nameP ts en) ≠ .ok (y, st') := by
  cases R with
  | error e => exact ⟨rfl, fun y st' hc => by cases hc⟩
  | ok st =>
    have e : nameP ts en st = .error (403, hereP ts en st.i) := by
      rw [peek_ok] at h
      unfold nameP
      cases hg : ts[st.i]? with
      | none => rfl
      | some t => rw [hg] at h; exact if_neg h
    exact ⟨by show stX (nameP ts en st) = _; rw [e]; rfl, fun y st' hc => by have hc : nameP ts en st = _ := hc; rw [e] at hc; cases hc⟩
theorem name_yes {ts : List Tk} {en : Int} {R : Except PE PS} (h : (peekX ts en R).kind = 0) : ∃ st, R = .ok st ∧ st.i < ts.length ∧ (R >>= nameP ts en) = .ok (bs (peekX ts en R).text, ⟨st.i + 1, st.ns⟩) := by
  cases R with
  | error e => cases h
  | ok st =>
    rw [peek_ok] at h ⊢
    cases hg : ts[st.i]? with
    | none => rw [hg] at h; cases h
    | some t =>
      rw [hg] at h
      refine ⟨st, rfl, (List.getElem?_eq_some_iff.1 hg).1, ?_⟩
      show nameP ts en st = _
      unfold nameP
      rw [hg]
      exact if_pos h
/-- a name, or an error. -/
def PqM (B G : Nat) (tv : Value) (ts : List Tk) (en : Int) (ov : Value) (d : Int) (w : World) (nv : Value) (R : Except PE (ByteArray × PS)) (e : Ending) (w' : World) : Prop := ∃ x, e = .returned (.string x) ∧ PqP B G tv ts en ov d w nv (stX R) w' ∧ ∀ y st', R = .ok (y, st') → x = y
set_option maxRecDepth 100000 in
set_option maxHeartbeats 2000000 in
theorem pname_any (B G : Nat) (tv : Value) (ts : List Tk) (en : Int) (ov : Value) (d : Int) (w : World) (nv : Value) (R : Except PE PS) (h : Hid (PqX B G tv ts en ov d w nv R)) :
    Calls Tryz.prog 83 #[.pointer (some ⟨G, 0, none⟩)] w (PqM B G tv ts en ov d w nv (R >>= nameP ts en)) := by
  have k := Lib.hid (peek_any B G tv ts en ov d w nv R h)
  have hno := Lib.hid (name_no (ts := ts) (en := en) (R := R))
  have hyes := Lib.hid (name_yes (ts := ts) (en := en) (R := R))
  generalize peekX ts en R = t at k hno hyes
  unfold tkV at k
  obtain ⟨tk, tx, tn, ta⟩ := t
  dsimp only at k hno hyes
  have f0 := tkf0; have f1 := tkf1
  go_enter Tryz.func83, Tryz.ntmps83
  go_wp2_with fail
  refine k.out.mono ?_
  rintro e w1 ⟨rfl, hb⟩
  have hb := Lib.hid hb
  clear k
  by_cases h0 : tk = 0
  · obtain ⟨st, rfl, hi, hn⟩ := hyes.out h0
    subst h0
    have hn := Lib.hid hn
    clear hyes hno
    have hi := Lib.hid hi
    have h2 := Lib.hid (PqW.below (show PqW B G tv ts en ov d w nv st .nilIface from h.out) hb.out)
    have h3 := h2.out.i
    have hf := h2.out.fg
    have hgl : G < w1.heap.size := by have := h2.out.gB; have := h2.out.bl; omega
    have hr1 : (st.i : Int) ≤ 1000000 := by have := h2.out.il; have := h2.out.tl; omega
    have hr0 : (0 : Int) ≤ (st.i : Int) := by omega
    go_wp2_with fail
    go_ret
    have h4 := h2.out.setI (st.i + 1) hi.out
    push_cast at h4
    refine ⟨_, rfl, ⟨?_, ((Bar.of_below (S := fun k => k = G) hb.out).trans h4.2 fun _ _ hs => hs).next (below_alc _ _)⟩, ?_⟩
    · rw [hn.out]; exact PqW.below h4.1 (below_alc _ _)
    · intro y st' e
      rw [hn.out] at e
      injection e with e; injection e
  · have hn := Lib.hid (hno.out h0)
    have e0 : (tk == 0) = false := beq_eq_false_iff_ne.2 h0
    clear hyes hno h0
    have k2 := Lib.hid (pfail_any B G tv ts en ov d _ nv R 403 _ _ (wanted_in (w1.heap.size + 1)) (Lib.hid (((h.out.below hb.out).below (below_alc w1 (.cells #[.int .i64 tk, .string (bs tx), .int .i64 tn, .int .i64 ta] 125))).below (below_alc _ (.cells #[.string ⟨#[97, 32, 110, 97, 109, 101]⟩] 101)))))
    go_wp2_with fail
    refine k2.out.mono ?_
    rintro e w2 ⟨rfl, h3⟩
    have h3 := Lib.hid h3
    clear k2
    go_wp2_with fail
    go_ret
    exact ⟨_, rfl, ⟨by rw [hn.out.1]; exact h3.out.1, (((Bar.of_below (S := fun k => k = G) hb.out).next (below_alc w1 _)).next (below_alc _ _)).trans h3.out.2 fun _ _ hs => hs⟩, fun y st' e => absurd e (hn.out.2 y st')⟩
end Go.Proofs.YtidlljookjicpaaGreatDoor

/- The program's parser: a node. -/
namespace Go.Proofs.YtidlljookjicpaaGreatDoor
open Go.RowKit
set_option linter.unusedVariables false
set_option linter.unusedSimpArgs false

theorem step_ndr {ops : Array Oper} {o : Oper} {a : Act} {K : Act → World → Prop} {Q : Exit → Act → World → Prop} {E : Prop} (hgd : o.guard = none) (s x : Operand) (W : World) (B : Nat) (hB : B ≤ W.heap.size) (ov : Value) (l ys : List Nd) (arr : Array Value)
    (ho : o.op = .call { callee := .builtin .append, args := #[s, x], argTypes := #[23, 23] })
    (hs : a.eval s = ov) (m : Nat) (hm : m = ys.length) (hx : a.eval x = .slice (some ⟨W.heap.size, 0, none⟩) m m) (harr : arr.toList = ndL ys) (hown : OwnN B W ov l) (hlen : l.length + ys.length ≤ 1000000)
    (h : ∀ v' w', OwnN B w' v' (l ++ ys) → Bar (fun k => ov.ownBlock = some k) W w' → (∀ g, v'.ownBlock = some g → ov.ownBlock = some g ∨ W.heap.size ≤ g) → K (a.put o.dst v') w') :
    if Region.wanted o (yielded ops a.tmps) = true then Oper.wp Tryz.prog o a (W.alloc (.cells arr 50)) K Q else E := by
  subst hm
  have hw : Region.wanted o (yielded ops a.tmps) = true := by simp [Region.wanted, hgd]
  rw [if_pos hw]
  obtain ⟨v', w', hr, h1, h2, h3⟩ := run_appN2 (W := W.alloc (.cells arr 50)) B (by simp; omega) o.type ov l (hown.below (below_alc W _)) ⟨W.heap.size, 0, none⟩ ys.length ys.length ys rfl (fun j u hj => by
    have e : (⟨W.heap.size, 0, none⟩ : Addr).add j = ⟨W.heap.size, j, none⟩ := by simp [Addr.add]; try omega
    rw [e, World.cell?_alloc_at _ _ _ _ rfl, ← hj, ← harr, Array.getElem?_toList]) hlen
  unfold Oper.wp
  simp [execOp, ho, resolve, invoke, builtin, hs, hx, hr, Result.andThen]
  refine h v' w' h1 ?_ fun g hg => ?_
  · have hsz := h2.size
    simp at hsz
    exact ⟨h2.os, h2.tape, h2.output, by omega, fun k hk hn => (h2.block k (by simp; omega) hn).trans (Below.heap_alloc W _ k (by omega))⟩
  · rcases h3 g hg with h | h
    · exact .inl h
    · exact .inr (by simp at h; omega)
/-- a row of nodes that was put behind another. -/
theorem PqW.setN {B G : Nat} {tv : Value} {ts : List Tk} {en : Int} {ov : Value} {d : Int} {w w2 : World} {nv nv' : Value} {st : PS} {ev : Value} {ns' : List Nd} (h : PqW B G tv ts en ov d w nv st ev) (hb : Bar (fun k => nv.ownBlock = some k) w w2) (ho : OwnN B w2 nv' ns') (hh : PHop nv nv' w) (hl : ns'.length ≤ 512) :
    PqW B G tv ts en ov d (w2.setCell ⟨G, 5, none⟩ nv') nv' ⟨st.i, ns'⟩ ev ∧ Stp G w nv (w2.setCell ⟨G, 5, none⟩ nv') nv' := by
  have ne : ∀ a b : Nat, a ≠ b → (⟨G, a, none⟩ : Addr) ≠ ⟨G, b, none⟩ := fun a b hab e => by injection e with _ e2 _; exact hab e2
  have hB := fun k hk => (own_lt h.own k hk).1
  have hGn : ¬ nv.ownBlock = some G := fun e => by have := hB G e; have := h.gB; omega
  have hb2 : Bar (fun k => k = G) w2 (w2.setCell ⟨G, 5, none⟩ nv') := Bar.set (S := fun k => k = G) ⟨G, 5, none⟩ _ rfl
  have hsz := hb.size
  refine ⟨⟨setO (hb.cell h.t hGn) (ne _ _ (by decide)), setO (hb.cell h.e hGn) (ne _ _ (by decide)), setO (hb.cell h.i hGn) (ne _ _ (by decide)), setO (hb.cell h.d hGn) (ne _ _ (by decide)), setO (hb.cell h.o hGn) (ne _ _ (by decide)), setS (hb.cell h.n hGn), setO (hb.cell h.r hGn) (ne _ _ (by decide)), h.gB, by have := h.bl; simp; omega, fun o => ?_, (h.tk.bar hb (fun k hk _ e => by have := hB k e; omega)).bar hb2 (fun k _ hk => hk), Bar.own hb2 ho (fun k hk e => by have := (own_lt ho k hk).1; have := h.gB; omega), h.il, hl, h.tl, fun k hk => by have := h.ol k hk; simp; omega⟩, ?_, ?_⟩
  · simp only [World.frozen?_setCell]
    rw [hb.frozen (a := ⟨G, o, none⟩) (by have := h.gB; have := h.bl; show G < _; omega) hGn]; exact h.fg o
  · exact (Bar.trans (S := PFr G nv) ((Bar.refl _ _).trans hb fun _ _ hs => .inr hs) hb2 fun _ _ hs => .inl hs)
  · exact hh
/-- a node's place, or an error. -/
def PqN (B G : Nat) (tv : Value) (ts : List Tk) (en : Int) (ov : Value) (d : Int) (w : World) (nv : Value) (R : Except PE (Nat × PS)) (e : Ending) (w' : World) : Prop := ∃ v nv', e = .returned (.int .i64 v) ∧ PqX B G tv ts en ov d w' nv' (stX R) ∧ Stp G w nv w' nv' ∧ ∀ x st', R = .ok (x, st') → v = x
theorem own_sl {B : Nat} {w : World} {v : Value} {l : List Nd} (h : OwnN B w v l) : ∃ a c, v = .slice a l.length c := by
  rcases h.cases with ⟨rfl, rfl⟩ | ⟨g, c, rfl, _⟩
  · exact ⟨none, 0, rfl⟩
  · exact ⟨_, c, rfl⟩
theorem PqX.sl {B G : Nat} {tv : Value} {ts : List Tk} {en : Int} {ov : Value} {d : Int} {w : World} {nv : Value} {R : Except PE PS} (h : PqX B G tv ts en ov d w nv R) : ∃ st ev, PqW B G tv ts en ov d w nv st ev ∧ ∀ s, R = .ok s → st = s ∧ ev = .nilIface := by
  cases R with
  | error e => obtain ⟨st, ev, h1, _⟩ := h; exact ⟨st, ev, h1, fun s hs => by cases hs⟩
  | ok st => exact ⟨st, _, h, fun s hs => by injection hs with hs; exact ⟨hs, rfl⟩⟩
set_option maxRecDepth 100000 in
set_option maxHeartbeats 2000000 in
/-- behind an error no node is put. -/
theorem node_err (B G : Nat) (tv : Value) (ts : List Tk) (en : Int) (ov : Value) (d : Int) (w : World) (nv : Value) (e : PE) (t : Nd) (h : Hid (PqX B G tv ts en ov d w nv (.error e))) :
    Calls Tryz.prog 116 #[.pointer (some ⟨G, 0, none⟩), .agg #[.int .i64 t.k, .int .i64 t.a, .int .i64 t.b, .int .i64 t.c, .int .i64 t.n, .string t.nm, .string t.x, .string t.y, .string t.z, .int .i64 t.p]] w (PqN B G tv ts en ov d w nv (.error e)) := by
  have k := Lib.hid (fail_err B G tv ts en ov d _ nv 27 (.int .i64 402) e (Lib.hid (h.out.below (below_alc w (.cells #[.int .i64 t.k, .int .i64 t.a, .int .i64 t.b, .int .i64 t.c, .int .i64 t.n, .string t.nm, .string t.x, .string t.y, .string t.z, .int .i64 t.p] 50)))))
  obtain ⟨st, ev, h1, F, v, rfl, _⟩ := h.out
  have h1 := Lib.hid h1
  obtain ⟨a, c, rfl⟩ := own_sl h1.out.own
  have hn := h1.out.n
  have hr := h1.out.r
  have hgl : G < w.heap.size := by have := h1.out.gB; have := h1.out.bl; omega
  have hnl : (st.ns.length : Int) ≤ 512 := by have := h1.out.nl; omega
  have hn0 := fun (u : Value) (W : World) => err_eql 73 u W
  have hn1 := nil_eql
  go_enter Tryz.func116, Tryz.ntmps116
  by_cases h0 : st.ns.length = 512
  · rw [h0] at hn
    clear hnl h0
    go_wp2_with fail
    refine k.out.mono ?_
    rintro e' w1 ⟨rfl, h2⟩
    clear hn hr h1 k
    obtain ⟨st1, ev1, h3, F1, v1, rfl, _⟩ := h2.1
    obtain ⟨a1, c1, e1⟩ := own_sl h3.own
    have h2 := Lib.hid h2
    have hn := h3.n
    have hr := h3.r
    have hgl : G < w1.heap.size := by have := h3.gB; have := h3.bl; omega
    clear h3 e1
    go_wp2_with fail
    go_ret
    exact ⟨_, _, rfl, h2.out.1, (Stp.below (below_alc w _)).trans (Stp.of h2.out.2), fun x st' hc => by cases hc⟩
  · have e0 : ((st.ns.length : Int) == 512) = false := beq_eq_false_iff_ne.2 (by omega)
    clear h0
    go_wp2_with fail
    go_ret
    exact ⟨_, _, rfl, h.out.below (below_alc w _), Stp.below (below_alc w _), fun x st' hc => by cases hc⟩
set_option maxRecDepth 100000 in
set_option maxHeartbeats 2000000 in
theorem node_full (B G : Nat) (tv : Value) (ts : List Tk) (en : Int) (ov : Value) (d : Int) (w : World) (nv : Value) (st : PS) (t : Nd) (h : Hid (PqW B G tv ts en ov d w nv st .nilIface)) (hf : st.ns.length = 512) :
    Calls Tryz.prog 116 #[.pointer (some ⟨G, 0, none⟩), .agg #[.int .i64 t.k, .int .i64 t.a, .int .i64 t.b, .int .i64 t.c, .int .i64 t.n, .string t.nm, .string t.x, .string t.y, .string t.z, .int .i64 t.p]] w (PqN B G tv ts en ov d w nv (.error (402, hereP ts en st.i))) := by
  obtain ⟨a, c, rfl⟩ := own_sl h.out.own
  have k := Lib.hid (fail_ok B G tv ts en ov d _ _ st 402 27 (.int .i64 402) (.inr ⟨by decide, rfl⟩) (Lib.hid (h.out.below (below_alc w (.cells #[.int .i64 t.k, .int .i64 t.a, .int .i64 t.b, .int .i64 t.c, .int .i64 t.n, .string t.nm, .string t.x, .string t.y, .string t.z, .int .i64 t.p] 50)))))
  have hn := h.out.n
  have hr := h.out.r
  rw [hf] at hn
  have hgl : G < w.heap.size := by have := h.out.gB; have := h.out.bl; omega
  have hn0 := fun (u : Value) (W : World) => err_eql 73 u W
  have hn1 := nil_eql
  go_enter Tryz.func116, Tryz.ntmps116
  go_wp2_with fail
  refine k.out.mono ?_
  rintro e' w1 ⟨rfl, h2⟩
  clear hn hr k
  obtain ⟨st1, ev1, h3, F1, v1, rfl, _⟩ := h2.1
  have h2 := Lib.hid h2
  obtain ⟨a1, c1, e1⟩ := own_sl h3.own
  have hn := h3.n
  have hr := h3.r
  have hgl : G < w1.heap.size := by have := h3.gB; have := h3.bl; omega
  clear h3 e1
  go_wp2_with fail
  go_ret
  exact ⟨_, _, rfl, h2.out.1, (Stp.below (below_alc w _)).trans (Stp.of h2.out.2), fun x st' hc => by cases hc⟩
/-- what the region of the append stands on. -/
theorem nd_box (w W : World) (t : Nd) (hW : w.alloc (.cells #[.int .i64 t.k, .int .i64 t.a, .int .i64 t.b, .int .i64 t.c, .int .i64 t.n, .string t.nm, .string t.x, .string t.y, .string t.z, .int .i64 t.p] 50) = W) : (W.cell? ⟨w.heap.size, 0, none⟩ = some (.int .i64 t.k) ∧ W.cell? ⟨w.heap.size, 1, none⟩ = some (.int .i64 t.a) ∧ W.cell? ⟨w.heap.size, 2, none⟩ = some (.int .i64 t.b) ∧ W.cell? ⟨w.heap.size, 3, none⟩ = some (.int .i64 t.c) ∧ W.cell? ⟨w.heap.size, 4, none⟩ = some (.int .i64 t.n) ∧ W.cell? ⟨w.heap.size, 5, none⟩ = some (.string t.nm) ∧ W.cell? ⟨w.heap.size, 6, none⟩ = some (.string t.x) ∧ W.cell? ⟨w.heap.size, 7, none⟩ = some (.string t.y) ∧ W.cell? ⟨w.heap.size, 8, none⟩ = some (.string t.z) ∧ W.cell? ⟨w.heap.size, 9, none⟩ = some (.int .i64 t.p)) ∧ Below w.heap.size w W ∧ w.heap.size < W.heap.size := by
  subst hW
  refine ⟨⟨?_, ?_, ?_, ?_, ?_, ?_, ?_, ?_, ?_, ?_⟩, below_alc _ _, by simp⟩ <;> (rw [World.cell?_alloc_at _ _ _ _ rfl]; rfl)
set_option maxRecDepth 100000 in
set_option maxHeartbeats 4000000 in
theorem node_ok (B G : Nat) (tv : Value) (ts : List Tk) (en : Int) (ov : Value) (d : Int) (w : World) (nv : Value) (st : PS) (t : Nd) (h : Hid (PqW B G tv ts en ov d w nv st .nilIface)) (hf : st.ns.length < 512) :
    Calls Tryz.prog 116 #[.pointer (some ⟨G, 0, none⟩), .agg #[.int .i64 t.k, .int .i64 t.a, .int .i64 t.b, .int .i64 t.c, .int .i64 t.n, .string t.nm, .string t.x, .string t.y, .string t.z, .int .i64 t.p]] w (PqN B G tv ts en ov d w nv (.ok (st.ns.length, ⟨st.i, st.ns ++ [t]⟩))) := by
  obtain ⟨a, c, rfl⟩ := own_sl h.out.own
  have hn := h.out.n
  have hr := h.out.r
  have hgl : G < w.heap.size := by have := h.out.gB; have := h.out.bl; omega
  have hn1 := nil_eql
  have e0 : ((st.ns.length : Int) == 512) = false := beq_eq_false_iff_ne.2 (by omega)
  have hf := Lib.hid hf
  go_enter Tryz.func116, Tryz.ntmps116
  go_upto_region 4 with fail
  obtain ⟨W0, hW0⟩ : ∃ W, w.alloc (.cells #[.int .i64 t.k, .int .i64 t.a, .int .i64 t.b, .int .i64 t.c, .int .i64 t.n, .string t.nm, .string t.x, .string t.y, .string t.z, .int .i64 t.p] 50) = W := ⟨_, rfl⟩
  obtain ⟨⟨y0, y1, y2, y3, y4, y5, y6, y7, y8, y9⟩, hb0, hs0⟩ := nd_box w W0 t hW0
  rw [hW0]
  clear hW0 hn hr e0 hn1
  have h2 := Lib.hid (h.out.below hb0)
  have hb0 := Lib.hid hb0
  have hn := h2.out.n
  have hfr := h2.out.fg
  have hgW : G < W0.heap.size := by omega
  have hq : Hid ((st.ns.length + [t].length) ≤ 1000000) := Lib.hid (by have := hf.out; simp; omega)
  have hBW : B ≤ W0.heap.size := h2.out.bl
  have hnG : ¬ (Value.slice a st.ns.length c).ownBlock = some G := fun e => by have := (own_lt h.out.own G e).1; have := h.out.gB; omega
  have hfin : Hid (∀ a2 c2 w2, OwnN B w2 (.slice a2 (st.ns.length + 1) c2) (st.ns ++ [t]) → Bar (fun k => (Value.slice a st.ns.length c).ownBlock = some k) W0.drew w2 → (∀ g, (Value.slice a2 (st.ns.length + 1) c2).ownBlock = some g → (Value.slice a st.ns.length c).ownBlock = some g ∨ W0.drew.heap.size ≤ g) → ∀ v : Int, v = st.ns.length → PqN B G tv ts en ov d w (.slice a st.ns.length c) (.ok (st.ns.length, ⟨st.i, st.ns ++ [t]⟩)) (.returned (.int .i64 v)) (w2.setCell ⟨G, 5, none⟩ (.slice a2 (st.ns.length + 1) c2))) := Lib.hid fun a2 c2 w2 k1 k2 k3 v hv => by
    have hd : Below W0.heap.size W0 W0.drew := (Below.refl _ _).drew
    obtain ⟨k4, k5⟩ := PqW.setN (h2.out.below hd) k2 k1 k3 (by have := hf.out; simp; omega)
    exact ⟨v, _, rfl, k4, ((Stp.below hb0.out).next hd).trans k5, fun x st' e => by injection e with e; injection e with e _; rw [hv, e]⟩
  have hnl : (st.ns.length : Int) ≤ 512 := by have := hf.out; omega
  have hnl0 : (0 : Int) ≤ (st.ns.length : Int) := by omega
  go_region_law ((refine step_ndr rfl (.tmp 23) (.tmp 25) W0.drew B (show B ≤ W0.drew.heap.size from hBW) (.slice a st.ns.length c) st.ns [t] _ rfl rfl 1 rfl rfl rfl (show OwnN B W0.drew (.slice a st.ns.length c) st.ns from h2.out.own) hq.out ?_; intro v' w2 hown2 hb2 hop2; obtain ⟨a2, c2, rfl⟩ := own_sl hown2; have hc2 : w2.cell? ⟨G, 5, none⟩ = some (.slice a st.ns.length c) := hb2.cell hn hnG; rw [List.length_append, List.length_singleton] at hown2 hop2; have hown2 := Lib.hid hown2; have hb2' := Lib.hid hb2; have hop2 := Lib.hid hop2; have hgw2 : G < w2.heap.size := Nat.lt_of_lt_of_le hgW hb2.size; have hf2 : w2.frozen? ⟨G, 5, none⟩ = false := (hb2.frozen (a := ⟨G, 5, none⟩) hgW hnG).trans (hfr 5)))
  all_goals
    clear hb2 hn hfr hgW y0 y1 y2 y3 y4 y5 y6 y7 y8 y9
    go_wp2_with fail
    go_ret
    exact hfin.out _ _ _ hown2.out hb2'.out hop2.out _ (by omega)
theorem node_any (B G : Nat) (tv : Value) (ts : List Tk) (en : Int) (ov : Value) (d : Int) (w : World) (nv : Value) (R : Except PE PS) (t : Nd) (h : Hid (PqX B G tv ts en ov d w nv R)) :
    Calls Tryz.prog 116 #[.pointer (some ⟨G, 0, none⟩), .agg #[.int .i64 t.k, .int .i64 t.a, .int .i64 t.b, .int .i64 t.c, .int .i64 t.n, .string t.nm, .string t.x, .string t.y, .string t.z, .int .i64 t.p]] w (PqN B G tv ts en ov d w nv (R >>= putP ts en t)) := by
  cases R with
  | error e => exact node_err B G tv ts en ov d w nv e t h
  | ok st =>
    have h1 : PqW B G tv ts en ov d w nv st .nilIface := h.out
    show Calls _ _ _ _ (PqN B G tv ts en ov d w nv (putP ts en t st))
    unfold putP
    by_cases hf : 512 ≤ st.ns.length
    · rw [if_pos hf]
      exact node_full B G tv ts en ov d w nv st t (Lib.hid h1) (by have := h1.nl; omega)
    · rw [if_neg hf]
      exact node_ok B G tv ts en ov d w nv st t (Lib.hid h1) (by omega)
end Go.Proofs.YtidlljookjicpaaGreatDoor

/- The program's parser: a node's own variable. -/
namespace Go.Proofs.YtidlljookjicpaaGreatDoor
open Go.RowKit
set_option linter.unusedVariables false
set_option linter.unusedSimpArgs false

/-- a variable of a call that holds a node. -/
structure NdBox (G : Nat) (w : World) (nv : Value) (b : Nat) (t : Nd) : Prop where
  c0 : w.cell? ⟨b, 0, none⟩ = some (.int .i64 t.k)
  c1 : w.cell? ⟨b, 1, none⟩ = some (.int .i64 t.a)
  c2 : w.cell? ⟨b, 2, none⟩ = some (.int .i64 t.b)
  c3 : w.cell? ⟨b, 3, none⟩ = some (.int .i64 t.c)
  c4 : w.cell? ⟨b, 4, none⟩ = some (.int .i64 t.n)
  c5 : w.cell? ⟨b, 5, none⟩ = some (.string t.nm)
  c6 : w.cell? ⟨b, 6, none⟩ = some (.string t.x)
  c7 : w.cell? ⟨b, 7, none⟩ = some (.string t.y)
  c8 : w.cell? ⟨b, 8, none⟩ = some (.string t.z)
  c9 : w.cell? ⟨b, 9, none⟩ = some (.int .i64 t.p)
  fz : ∀ o, w.frozen? ⟨b, o, none⟩ = false
  gb : b ≠ G
  ob : nv.ownBlock ≠ some b
  lt : b < w.heap.size
  ty : TyAt w b 50
theorem NdBox.step {G b : Nat} {w w' : World} {nv nv' : Value} {t : Nd} (h : NdBox G w nv b t) (hs : Stp G w nv w' nv') : NdBox G w' nv' b t := by
  have hp : ¬ PFr G nv b := fun hc => by rcases hc with hc | hc; exact h.gb hc; exact h.ob hc
  exact ⟨hs.1.cell h.c0 hp, hs.1.cell h.c1 hp, hs.1.cell h.c2 hp, hs.1.cell h.c3 hp, hs.1.cell h.c4 hp, hs.1.cell h.c5 hp, hs.1.cell h.c6 hp, hs.1.cell h.c7 hp, hs.1.cell h.c8 hp, hs.1.cell h.c9 hp, fun o => by rw [hs.1.frozen (a := ⟨b, o, none⟩) h.lt hp]; exact h.fz o, h.gb, fun e => by rcases hs.2 b e with e | e; exact h.ob e; have := h.lt; omega, by have := hs.1.size; have := h.lt; omega, h.ty.bar hs.1 hp⟩
theorem NdBox.set0 {G b : Nat} {w : World} {nv : Value} {t : Nd} (h : NdBox G w nv b t) (v : Int) : NdBox G (w.setCell ⟨b, 0, none⟩ (.int .i64 v)) nv b { t with k := v } := by
  have ne : ∀ a c : Nat, a ≠ c → (⟨b, a, none⟩ : Addr) ≠ ⟨b, c, none⟩ := fun a c hab e => by injection e with _ e2 _; exact hab e2
  exact ⟨setS h.c0, setO h.c1 (ne _ _ (by decide)), setO h.c2 (ne _ _ (by decide)), setO h.c3 (ne _ _ (by decide)), setO h.c4 (ne _ _ (by decide)), setO h.c5 (ne _ _ (by decide)), setO h.c6 (ne _ _ (by decide)), setO h.c7 (ne _ _ (by decide)), setO h.c8 (ne _ _ (by decide)), setO h.c9 (ne _ _ (by decide)), fun o => by simp only [World.frozen?_setCell]; exact h.fz o, h.gb, h.ob, by have := h.lt; simpa using this, h.ty.set _ _⟩
theorem NdBox.set1 {G b : Nat} {w : World} {nv : Value} {t : Nd} (h : NdBox G w nv b t) (v : Int) : NdBox G (w.setCell ⟨b, 1, none⟩ (.int .i64 v)) nv b { t with a := v } := by
  have ne : ∀ a c : Nat, a ≠ c → (⟨b, a, none⟩ : Addr) ≠ ⟨b, c, none⟩ := fun a c hab e => by injection e with _ e2 _; exact hab e2
  exact ⟨setO h.c0 (ne _ _ (by decide)), setS h.c1, setO h.c2 (ne _ _ (by decide)), setO h.c3 (ne _ _ (by decide)), setO h.c4 (ne _ _ (by decide)), setO h.c5 (ne _ _ (by decide)), setO h.c6 (ne _ _ (by decide)), setO h.c7 (ne _ _ (by decide)), setO h.c8 (ne _ _ (by decide)), setO h.c9 (ne _ _ (by decide)), fun o => by simp only [World.frozen?_setCell]; exact h.fz o, h.gb, h.ob, by have := h.lt; simpa using this, h.ty.set _ _⟩
theorem NdBox.set2 {G b : Nat} {w : World} {nv : Value} {t : Nd} (h : NdBox G w nv b t) (v : Int) : NdBox G (w.setCell ⟨b, 2, none⟩ (.int .i64 v)) nv b { t with b := v } := by
  have ne : ∀ a c : Nat, a ≠ c → (⟨b, a, none⟩ : Addr) ≠ ⟨b, c, none⟩ := fun a c hab e => by injection e with _ e2 _; exact hab e2
  exact ⟨setO h.c0 (ne _ _ (by decide)), setO h.c1 (ne _ _ (by decide)), setS h.c2, setO h.c3 (ne _ _ (by decide)), setO h.c4 (ne _ _ (by decide)), setO h.c5 (ne _ _ (by decide)), setO h.c6 (ne _ _ (by decide)), setO h.c7 (ne _ _ (by decide)), setO h.c8 (ne _ _ (by decide)), setO h.c9 (ne _ _ (by decide)), fun o => by simp only [World.frozen?_setCell]; exact h.fz o, h.gb, h.ob, by have := h.lt; simpa using this, h.ty.set _ _⟩
theorem NdBox.set3 {G b : Nat} {w : World} {nv : Value} {t : Nd} (h : NdBox G w nv b t) (v : Int) : NdBox G (w.setCell ⟨b, 3, none⟩ (.int .i64 v)) nv b { t with c := v } := by
  have ne : ∀ a c : Nat, a ≠ c → (⟨b, a, none⟩ : Addr) ≠ ⟨b, c, none⟩ := fun a c hab e => by injection e with _ e2 _; exact hab e2
  exact ⟨setO h.c0 (ne _ _ (by decide)), setO h.c1 (ne _ _ (by decide)), setO h.c2 (ne _ _ (by decide)), setS h.c3, setO h.c4 (ne _ _ (by decide)), setO h.c5 (ne _ _ (by decide)), setO h.c6 (ne _ _ (by decide)), setO h.c7 (ne _ _ (by decide)), setO h.c8 (ne _ _ (by decide)), setO h.c9 (ne _ _ (by decide)), fun o => by simp only [World.frozen?_setCell]; exact h.fz o, h.gb, h.ob, by have := h.lt; simpa using this, h.ty.set _ _⟩
theorem NdBox.set4 {G b : Nat} {w : World} {nv : Value} {t : Nd} (h : NdBox G w nv b t) (v : Int) : NdBox G (w.setCell ⟨b, 4, none⟩ (.int .i64 v)) nv b { t with n := v } := by
  have ne : ∀ a c : Nat, a ≠ c → (⟨b, a, none⟩ : Addr) ≠ ⟨b, c, none⟩ := fun a c hab e => by injection e with _ e2 _; exact hab e2
  exact ⟨setO h.c0 (ne _ _ (by decide)), setO h.c1 (ne _ _ (by decide)), setO h.c2 (ne _ _ (by decide)), setO h.c3 (ne _ _ (by decide)), setS h.c4, setO h.c5 (ne _ _ (by decide)), setO h.c6 (ne _ _ (by decide)), setO h.c7 (ne _ _ (by decide)), setO h.c8 (ne _ _ (by decide)), setO h.c9 (ne _ _ (by decide)), fun o => by simp only [World.frozen?_setCell]; exact h.fz o, h.gb, h.ob, by have := h.lt; simpa using this, h.ty.set _ _⟩
theorem NdBox.set5 {G b : Nat} {w : World} {nv : Value} {t : Nd} (h : NdBox G w nv b t) (v : ByteArray) : NdBox G (w.setCell ⟨b, 5, none⟩ (.string v)) nv b { t with nm := v } := by
  have ne : ∀ a c : Nat, a ≠ c → (⟨b, a, none⟩ : Addr) ≠ ⟨b, c, none⟩ := fun a c hab e => by injection e with _ e2 _; exact hab e2
  exact ⟨setO h.c0 (ne _ _ (by decide)), setO h.c1 (ne _ _ (by decide)), setO h.c2 (ne _ _ (by decide)), setO h.c3 (ne _ _ (by decide)), setO h.c4 (ne _ _ (by decide)), setS h.c5, setO h.c6 (ne _ _ (by decide)), setO h.c7 (ne _ _ (by decide)), setO h.c8 (ne _ _ (by decide)), setO h.c9 (ne _ _ (by decide)), fun o => by simp only [World.frozen?_setCell]; exact h.fz o, h.gb, h.ob, by have := h.lt; simpa using this, h.ty.set _ _⟩
theorem NdBox.set6 {G b : Nat} {w : World} {nv : Value} {t : Nd} (h : NdBox G w nv b t) (v : ByteArray) : NdBox G (w.setCell ⟨b, 6, none⟩ (.string v)) nv b { t with x := v } := by
  have ne : ∀ a c : Nat, a ≠ c → (⟨b, a, none⟩ : Addr) ≠ ⟨b, c, none⟩ := fun a c hab e => by injection e with _ e2 _; exact hab e2
  exact ⟨setO h.c0 (ne _ _ (by decide)), setO h.c1 (ne _ _ (by decide)), setO h.c2 (ne _ _ (by decide)), setO h.c3 (ne _ _ (by decide)), setO h.c4 (ne _ _ (by decide)), setO h.c5 (ne _ _ (by decide)), setS h.c6, setO h.c7 (ne _ _ (by decide)), setO h.c8 (ne _ _ (by decide)), setO h.c9 (ne _ _ (by decide)), fun o => by simp only [World.frozen?_setCell]; exact h.fz o, h.gb, h.ob, by have := h.lt; simpa using this, h.ty.set _ _⟩
theorem NdBox.set7 {G b : Nat} {w : World} {nv : Value} {t : Nd} (h : NdBox G w nv b t) (v : ByteArray) : NdBox G (w.setCell ⟨b, 7, none⟩ (.string v)) nv b { t with y := v } := by
  have ne : ∀ a c : Nat, a ≠ c → (⟨b, a, none⟩ : Addr) ≠ ⟨b, c, none⟩ := fun a c hab e => by injection e with _ e2 _; exact hab e2
  exact ⟨setO h.c0 (ne _ _ (by decide)), setO h.c1 (ne _ _ (by decide)), setO h.c2 (ne _ _ (by decide)), setO h.c3 (ne _ _ (by decide)), setO h.c4 (ne _ _ (by decide)), setO h.c5 (ne _ _ (by decide)), setO h.c6 (ne _ _ (by decide)), setS h.c7, setO h.c8 (ne _ _ (by decide)), setO h.c9 (ne _ _ (by decide)), fun o => by simp only [World.frozen?_setCell]; exact h.fz o, h.gb, h.ob, by have := h.lt; simpa using this, h.ty.set _ _⟩
theorem NdBox.set8 {G b : Nat} {w : World} {nv : Value} {t : Nd} (h : NdBox G w nv b t) (v : ByteArray) : NdBox G (w.setCell ⟨b, 8, none⟩ (.string v)) nv b { t with z := v } := by
  have ne : ∀ a c : Nat, a ≠ c → (⟨b, a, none⟩ : Addr) ≠ ⟨b, c, none⟩ := fun a c hab e => by injection e with _ e2 _; exact hab e2
  exact ⟨setO h.c0 (ne _ _ (by decide)), setO h.c1 (ne _ _ (by decide)), setO h.c2 (ne _ _ (by decide)), setO h.c3 (ne _ _ (by decide)), setO h.c4 (ne _ _ (by decide)), setO h.c5 (ne _ _ (by decide)), setO h.c6 (ne _ _ (by decide)), setO h.c7 (ne _ _ (by decide)), setS h.c8, setO h.c9 (ne _ _ (by decide)), fun o => by simp only [World.frozen?_setCell]; exact h.fz o, h.gb, h.ob, by have := h.lt; simpa using this, h.ty.set _ _⟩
theorem NdBox.set9 {G b : Nat} {w : World} {nv : Value} {t : Nd} (h : NdBox G w nv b t) (v : Int) : NdBox G (w.setCell ⟨b, 9, none⟩ (.int .i64 v)) nv b { t with p := v } := by
  have ne : ∀ a c : Nat, a ≠ c → (⟨b, a, none⟩ : Addr) ≠ ⟨b, c, none⟩ := fun a c hab e => by injection e with _ e2 _; exact hab e2
  exact ⟨setO h.c0 (ne _ _ (by decide)), setO h.c1 (ne _ _ (by decide)), setO h.c2 (ne _ _ (by decide)), setO h.c3 (ne _ _ (by decide)), setO h.c4 (ne _ _ (by decide)), setO h.c5 (ne _ _ (by decide)), setO h.c6 (ne _ _ (by decide)), setO h.c7 (ne _ _ (by decide)), setO h.c8 (ne _ _ (by decide)), setS h.c9, fun o => by simp only [World.frozen?_setCell]; exact h.fz o, h.gb, h.ob, by have := h.lt; simpa using this, h.ty.set _ _⟩
/-- a write to the variable. -/
theorem PqX.box {B G : Nat} {tv : Value} {ts : List Tk} {en : Int} {ov : Value} {d : Int} {w : World} {nv : Value} {R : Except PE PS} {b : Nat} {t : Nd} (h : PqX B G tv ts en ov d w nv R) (hx : NdBox G w nv b t) (hB : B ≤ b) (o : Nat) (v : Value) : PqX B G tv ts en ov d (w.setCell ⟨b, o, none⟩ v) nv R := by
  have hb : Bar (fun k => k = b) w (w.setCell ⟨b, o, none⟩ v) := Bar.set (S := fun k => k = b) ⟨b, o, none⟩ v rfl
  have k1 : ∀ st ev, PqW B G tv ts en ov d w nv st ev → PqW B G tv ts en ov d (w.setCell ⟨b, o, none⟩ v) nv st ev := fun st ev hw => hw.bar hb (fun e => hx.gb e.symm) (fun k hk _ e => by omega) (fun k hk e => hx.ob (e ▸ hk))
  cases R with
  | ok st => exact k1 st _ h
  | error e =>
    obtain ⟨st, ev, h1, h2⟩ := h
    exact ⟨st, ev, k1 st ev h1, h2.bar hb (fun k _ _ ht e => ht.ne hx.ty (by decide) e) (fun g hg => .inl hg)⟩
end Go.Proofs.YtidlljookjicpaaGreatDoor

/- The program's parser: fun. -/
namespace Go.Proofs.YtidlljookjicpaaGreatDoor
open Go.RowKit
set_option linter.unusedVariables false
set_option linter.unusedSimpArgs false

/-- a call that reads an expression as e does. -/
def ExC (B G : Nat) (tv : Value) (ts : List Tk) (en : Int) (ov : Value) (F : Nat) (d : Int) (f : PS → Except PE (Nat × PS)) : Prop := ∀ w nv R, PqX B G tv ts en ov d w nv R → Calls Tryz.prog F #[.pointer (some ⟨G, 0, none⟩)] w (PqN B G tv ts en ov d w nv (R >>= f))
theorem Stp.store {G : Nat} {w W : World} {nv nv' : Value} (h : Stp G w nv W nv') {b : Nat} (hb : w.heap.size ≤ b) (o : Nat) (v : Value) : Stp G w nv (W.setCell ⟨b, o, none⟩ v) nv' :=
  ⟨h.1.trans (Bar.set (S := fun k => k = b) ⟨b, o, none⟩ v rfl) fun k hk e => by omega, h.2⟩
theorem PqX.lt {B G : Nat} {tv : Value} {ts : List Tk} {en : Int} {ov : Value} {d : Int} {w : World} {nv : Value} {R : Except PE PS} (h : PqX B G tv ts en ov d w nv R) : G < B ∧ B ≤ w.heap.size ∧ ∀ k, nv.ownBlock = some k → k < w.heap.size := by
  obtain ⟨st, ev, h1, _⟩ := h.sl
  exact ⟨h1.gB, h1.bl, fun k hk => (own_lt h1.own k hk).2⟩
/-- a variable that was made. -/
theorem NdBox.new {B G : Nat} {tv : Value} {ts : List Tk} {en : Int} {ov : Value} {d : Int} {w : World} {nv : Value} {R : Except PE PS} (h : PqX B G tv ts en ov d w nv R) (t : Nd) : NdBox G (w.alloc (.cells #[.int .i64 t.k, .int .i64 t.a, .int .i64 t.b, .int .i64 t.c, .int .i64 t.n, .string t.nm, .string t.x, .string t.y, .string t.z, .int .i64 t.p] 50)) nv w.heap.size t := by
  obtain ⟨h1, h2, h3⟩ := h.lt
  obtain ⟨⟨y0, y1, y2, y3, y4, y5, y6, y7, y8, y9⟩, _, hs⟩ := nd_box w _ t rfl
  exact ⟨y0, y1, y2, y3, y4, y5, y6, y7, y8, y9, fun o => by simp [go_sem], by omega, fun e => by have := h3 _ e; omega, hs, TyAt.new _ _ _⟩
theorem fun_eq {ts : List Tk} {en : Int} {e : PS → Except PE (Nat × PS)} {beg : Int} {R : Except PE PS} {x : ByteArray} {a : Int} (hv1 : ∀ y st', (R >>= nameP ts en) = .ok (y, st') → x = y) (hv3 : ∀ n st', ((stX (R >>= nameP ts en) >>= wantP ts en sgArrow) >>= e) = .ok (n, st') → a = (n : Nat)) :
    (stX ((stX (R >>= nameP ts en) >>= wantP ts en sgArrow) >>= e) >>= putP ts en ⟨3, a, 0, 0, 0, ba0, x, ba0, ba0, beg⟩) = (R >>= funP ts en e beg) := by
  cases R with
  | error _ => rfl
  | ok st =>
    have h1 : (Except.ok st >>= nameP ts en) = nameP ts en st := rfl
    have h2 : (Except.ok st >>= funP ts en e beg) = funP ts en e beg st := rfl
    rw [h1] at hv1 hv3 ⊢
    rw [h2]; unfold funP
    cases hn : nameP ts en st with
    | error er => rfl
    | ok y =>
      obtain ⟨y, s1⟩ := y
      rw [hn] at hv3
      obtain rfl := hv1 _ _ hn
      have h3 : (stX (Except.ok (x, s1) : Except PE (ByteArray × PS)) >>= wantP ts en sgArrow) = wantP ts en sgArrow s1 := rfl
      rw [h3] at hv3 ⊢
      show _ = (wantP ts en sgArrow s1 >>= fun st => e st >>= fun a => putP ts en ⟨3, (a.1 : Nat), 0, 0, 0, ba0, x, ba0, ba0, beg⟩ a.2)
      cases hw : wantP ts en sgArrow s1 with
      | error er => rfl
      | ok s2 =>
        rw [hw] at hv3
        have h4 : ∀ {β : Type} (f : PS → Except PE β), (Except.ok s2 >>= f) = f s2 := fun f => rfl
        rw [h4] at hv3 ⊢
        rw [h4]
        cases he : e s2 with
        | error er => rfl
        | ok n =>
          obtain ⟨n, s3⟩ := n
          obtain rfl := hv3 _ _ he
          rfl
set_option maxRecDepth 100000 in
set_option maxHeartbeats 4000000 in
theorem function_any (B G : Nat) (tv : Value) (ts : List Tk) (en : Int) (ov : Value) (d : Int) (e : PS → Except PE (Nat × PS)) (kE : Hid (ExC B G tv ts en ov 54 d e)) (beg : Int) (w : World) (nv : Value) (R : Except PE PS) (h : Hid (PqX B G tv ts en ov d w nv R)) :
    Calls Tryz.prog 105 #[.pointer (some ⟨G, 0, none⟩), .int .i64 beg] w (PqN B G tv ts en ov d w nv (R >>= funP ts en e beg)) := by
  have hx0 := Lib.hid (NdBox.new h.out ⟨3, 0, 0, 0, 0, ⟨#[]⟩, ⟨#[]⟩, ⟨#[]⟩, ⟨#[]⟩, beg⟩)
  have k1 := Lib.hid (pname_any B G tv ts en ov d _ nv R (Lib.hid (h.out.below (below_alc w (.cells #[.int .i64 3, .int .i64 0, .int .i64 0, .int .i64 0, .int .i64 0, .string ⟨#[]⟩, .string ⟨#[]⟩, .string ⟨#[]⟩, .string ⟨#[]⟩, .int .i64 beg] 50)))))
  have hBw := Lib.hid h.out.lt.2.1
  go_enter Tryz.func105, Tryz.ntmps105
  go_wp2_with fail
  refine k1.out.mono ?_
  rintro e1 w1 ⟨x, rfl, ⟨hp1, hb1⟩, hv1⟩
  clear k1
  have hx1 := Lib.hid (hx0.out.step (Stp.of hb1))
  have hS1 := Lib.hid (show Stp G w nv w1 nv from (Stp.below (below_alc w (.cells #[.int .i64 3, .int .i64 0, .int .i64 0, .int .i64 0, .int .i64 0, .string ⟨#[]⟩, .string ⟨#[]⟩, .string ⟨#[]⟩, .string ⟨#[]⟩, .int .i64 beg] 50))).trans (Stp.of hb1))
  have hp1' := Lib.hid (hp1.box hx1.out hBw.out 6 (.string x))
  have hx1' := Lib.hid (hx1.out.set6 x)
  have hS1' := Lib.hid (hS1.out.store (Nat.le_refl w.heap.size) 6 (.string x))
  have hv1 := Lib.hid hv1
  have c6 := hx1.out.c6; have cf := hx1.out.fz; have cl := hx1.out.lt
  have k2 := Lib.hid (take_any B G tv ts en ov d _ nv _ sgArrow hp1')
  clear hb1 hp1 hx1 hS1 hx0
  go_wp2_with fail
  refine k2.out.mono ?_
  rintro e2 w2 ⟨rfl, hp2, hb2⟩
  clear k2 hp1' c6 cf cl
  have hx2 := Lib.hid (hx1'.out.step (Stp.of hb2))
  have hS2 := Lib.hid (show Stp G w nv w2 nv from hS1'.out.trans (Stp.of hb2))
  have hp2 := Lib.hid hp2
  clear hx1' hS1' hb2
  go_wp2_with fail
  refine (kE.out w2 nv _ hp2.out).mono ?_
  rintro e3 w3 ⟨a, nv3, rfl, hp3, hs3, hv3⟩
  have hx3 := Lib.hid (hx2.out.step hs3)
  have hS3 := Lib.hid (hS2.out.trans hs3)
  have hp3' := Lib.hid (hp3.box hx3.out hBw.out 1 (.int .i64 a))
  have hS3' := Lib.hid (hS3.out.store (Nat.le_refl w.heap.size) 1 (.int .i64 a))
  have hv3 := Lib.hid hv3
  have c0 := hx3.out.c0; have c1 := hx3.out.c1; have c2 := hx3.out.c2; have c3 := hx3.out.c3; have c4 := hx3.out.c4; have c5 := hx3.out.c5; have c6 := hx3.out.c6; have c7 := hx3.out.c7; have c8 := hx3.out.c8; have c9 := hx3.out.c9; have cf := hx3.out.fz; have cl := hx3.out.lt
  dsimp only at c0 c1 c2 c3 c4 c5 c6 c7 c8 c9
  have k4 := Lib.hid (node_any B G tv ts en ov d _ nv3 _ ⟨3, a, 0, 0, 0, ⟨#[]⟩, x, ⟨#[]⟩, ⟨#[]⟩, beg⟩ hp3')
  have he := Lib.hid (fun_eq (ts := ts) (en := en) (e := e) (beg := beg) (R := R) (x := x) (a := a) hv1.out hv3.out)
  clear hx2 hS2 hs3 hp3 hS3 hp2 hv1 hv3
  go_wp2_with fail
  refine k4.out.mono ?_
  rintro e4 w4 ⟨v, nv4, rfl, hp4, hs4, hv4⟩
  have hfin : Hid (PqN B G tv ts en ov d w nv (R >>= funP ts en e beg) (.returned (.int .i64 v)) w4) := Lib.hid (by rw [← he.out]; exact ⟨v, nv4, rfl, hp4, hS3'.out.trans hs4, hv4⟩)
  clear k4 hp4 hs4 hv4 he c0 c1 c2 c3 c4 c5 c6 c7 c8 c9 cf cl
  go_wp2_with fail
  go_ret
  exact hfin.out
end Go.Proofs.YtidlljookjicpaaGreatDoor

/- The program's parser: let, if, let rec, handle. Written by gen_pq.py. -/
namespace Go.Proofs.YtidlljookjicpaaGreatDoor
open Go.RowKit
set_option linter.unusedVariables false
set_option linter.unusedSimpArgs false

theorem plet_eq {ts : List Tk} {en : Int} {e : PS → Except PE (Nat × PS)} {beg : Int} {R : Except PE PS} {x1 : ByteArray} {a3 : Int} {a5 : Int} (hv1 : ∀ y st', (R >>= nameP ts en) = .ok (y, st') → x1 = y) (hv3 : ∀ n st', (((stX (R >>= nameP ts en)) >>= wantP ts en sgEq) >>= e) = .ok (n, st') → a3 = (n : Nat)) (hv5 : ∀ n st', (((stX (((stX (R >>= nameP ts en)) >>= wantP ts en sgEq) >>= e)) >>= wantP ts en kwIn) >>= e) = .ok (n, st') → a5 = (n : Nat)) :
    ((stX (((stX (((stX (R >>= nameP ts en)) >>= wantP ts en sgEq) >>= e)) >>= wantP ts en kwIn) >>= e)) >>= putP ts en ⟨5, a3, a5, 0, 0, ⟨#[]⟩, x1, ⟨#[]⟩, ⟨#[]⟩, beg⟩) = (R >>= letP ts en e beg) := by
  rcases R with _ | st
  · rfl
  simp only [bind, Except.bind, stX] at hv1 hv3 hv5 ⊢
  simp only [letP, bind, Except.bind]
  rcases h1 : nameP ts en st with _ | ⟨y1, s1⟩
  · simp only [h1]
  simp only [h1]
  try simp only [h1] at hv1
  try simp only [h1] at hv3
  try simp only [h1] at hv5
  obtain rfl := hv1 _ _ rfl
  rcases h2 : wantP ts en sgEq s1 with _ | s2
  · simp only [h2]
  simp only [h2]
  try simp only [h2] at hv3
  try simp only [h2] at hv5
  rcases h3 : e s2 with _ | ⟨y3, s3⟩
  · simp only [h3]
  simp only [h3]
  try simp only [h3] at hv3
  try simp only [h3] at hv5
  obtain rfl := hv3 _ _ rfl
  rcases h4 : wantP ts en kwIn s3 with _ | s4
  · simp only [h4]
  simp only [h4]
  try simp only [h4] at hv5
  rcases h5 : e s4 with _ | ⟨y5, s5⟩
  · simp only [h5]
  simp only [h5]
  try simp only [h5] at hv5
  obtain rfl := hv5 _ _ rfl
  first | rfl | done
set_option maxRecDepth 100000 in
set_option maxHeartbeats 4000000 in
theorem plet_any (B G : Nat) (tv : Value) (ts : List Tk) (en : Int) (ov : Value) (d : Int) (e : PS → Except PE (Nat × PS)) (kE : Hid (ExC B G tv ts en ov 54 d e)) (beg : Int) (w : World) (nv : Value) (R : Except PE PS) (h : Hid (PqX B G tv ts en ov d w nv R)) :
    Calls Tryz.prog 107 #[.pointer (some ⟨G, 0, none⟩), .int .i64 beg] w (PqN B G tv ts en ov d w nv (R >>= letP ts en e beg)) := by
  have hx0 := Lib.hid (NdBox.new h.out ⟨5, 0, 0, 0, 0, ⟨#[]⟩, ⟨#[]⟩, ⟨#[]⟩, ⟨#[]⟩, beg⟩)
  have hp0 := Lib.hid (h.out.below (below_alc w (.cells #[.int .i64 5, .int .i64 0, .int .i64 0, .int .i64 0, .int .i64 0, .string ⟨#[]⟩, .string ⟨#[]⟩, .string ⟨#[]⟩, .string ⟨#[]⟩, .int .i64 beg] 50)))
  have hS0 := Lib.hid (show Stp G w nv (w.alloc (.cells #[.int .i64 5, .int .i64 0, .int .i64 0, .int .i64 0, .int .i64 0, .string ⟨#[]⟩, .string ⟨#[]⟩, .string ⟨#[]⟩, .string ⟨#[]⟩, .int .i64 beg] 50)) nv from Stp.below (below_alc w (.cells #[.int .i64 5, .int .i64 0, .int .i64 0, .int .i64 0, .int .i64 0, .string ⟨#[]⟩, .string ⟨#[]⟩, .string ⟨#[]⟩, .string ⟨#[]⟩, .int .i64 beg] 50)))
  have hBw := Lib.hid h.out.lt.2.1
  go_enter Tryz.func107, Tryz.ntmps107
  go_wp2_with fail
  refine (pname_any B G tv ts en ov d _ nv _ hp0).mono ?_
  rintro e1 w1 ⟨x1, rfl, ⟨hq1, hb1⟩, hv1⟩
  have hs1 := Lib.hid (show Stp G _ nv w1 nv from Stp.of hb1)
  clear hb1
  have hv1 := Lib.hid hv1
  have hy1 := Lib.hid (hx0.out.step hs1.out)
  have hx1 := Lib.hid (hy1.out.set6 x1)
  have hp1 := Lib.hid (hq1.box hy1.out hBw.out 6 (.string x1))
  have hS1 := Lib.hid ((hS0.out.trans hs1.out).store (Nat.le_refl w.heap.size) 6 (.string x1))
  have cs := hy1.out.c6; have cf := hy1.out.fz; have cl := hy1.out.lt
  clear hx0 hS0 hp0 hs1 hq1
  clear hy1
  go_wp2_with fail
  clear cs cf cl
  refine (take_any B G tv ts en ov d _ nv _ sgEq hp1).mono ?_
  rintro e2 w2 ⟨rfl, hq2, hb2⟩
  have hs2 := Lib.hid (show Stp G _ nv w2 nv from Stp.of hb2)
  have hx2 := Lib.hid (hx1.out.step hs2.out)
  have hS2 := Lib.hid (hS1.out.trans hs2.out)
  have hp2 := Lib.hid hq2
  clear hx1 hS1 hp1 hs2 hb2 hq2
  go_wp2_with fail
  refine (kE.out _ nv _ hp2.out).mono ?_
  rintro e3 w3 ⟨a3, nv3, rfl, hq3, hs3, hv3⟩
  have hs3 := Lib.hid hs3
  have hv3 := Lib.hid hv3
  have hy3 := Lib.hid (hx2.out.step hs3.out)
  have hx3 := Lib.hid (hy3.out.set1 a3)
  have hp3 := Lib.hid (hq3.box hy3.out hBw.out 1 (.int .i64 a3))
  have hS3 := Lib.hid ((hS2.out.trans hs3.out).store (Nat.le_refl w.heap.size) 1 (.int .i64 a3))
  have cs := hy3.out.c1; have cf := hy3.out.fz; have cl := hy3.out.lt
  clear hx2 hS2 hp2 hs3 hq3
  clear hy3
  go_wp2_with fail
  clear cs cf cl
  refine (take_any B G tv ts en ov d _ nv3 _ kwIn hp3).mono ?_
  rintro e4 w4 ⟨rfl, hq4, hb4⟩
  have hs4 := Lib.hid (show Stp G _ nv3 w4 nv3 from Stp.of hb4)
  have hx4 := Lib.hid (hx3.out.step hs4.out)
  have hS4 := Lib.hid (hS3.out.trans hs4.out)
  have hp4 := Lib.hid hq4
  clear hx3 hS3 hp3 hs4 hb4 hq4
  go_wp2_with fail
  refine (kE.out _ nv3 _ hp4.out).mono ?_
  rintro e5 w5 ⟨a5, nv5, rfl, hq5, hs5, hv5⟩
  have hs5 := Lib.hid hs5
  have hv5 := Lib.hid hv5
  have hy5 := Lib.hid (hx4.out.step hs5.out)
  have hx5 := Lib.hid (hy5.out.set2 a5)
  have hp5 := Lib.hid (hq5.box hy5.out hBw.out 2 (.int .i64 a5))
  have hS5 := Lib.hid ((hS4.out.trans hs5.out).store (Nat.le_refl w.heap.size) 2 (.int .i64 a5))
  clear hx4 hS4 hp4 hs5 hq5
  have c0 := hy5.out.c0
  have c1 := hy5.out.c1
  have c2 := hy5.out.c2
  have c3 := hy5.out.c3
  have c4 := hy5.out.c4
  have c5 := hy5.out.c5
  have c6 := hy5.out.c6
  have c7 := hy5.out.c7
  have c8 := hy5.out.c8
  have c9 := hy5.out.c9
  have cf := hy5.out.fz; have cl := hy5.out.lt
  dsimp only at c0 c1 c2 c3 c4 c5 c6 c7 c8 c9
  have k4 := Lib.hid (node_any B G tv ts en ov d _ nv5 _ ⟨5, a3, a5, 0, 0, ⟨#[]⟩, x1, ⟨#[]⟩, ⟨#[]⟩, beg⟩ hp5)
  have he := Lib.hid (plet_eq (ts := ts) (en := en) (e := e) (beg := beg) (R := R) hv1.out hv3.out hv5.out)
  go_wp2_with fail
  refine k4.out.mono ?_
  rintro e4 w4 ⟨v, nv4, rfl, hp4, hs4, hv4⟩
  have hfin : Hid (PqN B G tv ts en ov d w nv (R >>= letP ts en e beg) (.returned (.int .i64 v)) w4) := Lib.hid (by rw [← he.out]; exact ⟨v, nv4, rfl, hp4, hS5.out.trans hs4, hv4⟩)
  clear k4 hp4 hs4 hv4 he c0 c1 c2 c3 c4 c5 c6 c7 c8 c9 cf cl
  go_wp2_with fail
  go_ret
  exact hfin.out
theorem pif_eq {ts : List Tk} {en : Int} {e : PS → Except PE (Nat × PS)} {beg : Int} {R : Except PE PS} {a1 : Int} {a3 : Int} {a5 : Int} (hv1 : ∀ n st', (R >>= e) = .ok (n, st') → a1 = (n : Nat)) (hv3 : ∀ n st', (((stX (R >>= e)) >>= wantP ts en kwThen) >>= e) = .ok (n, st') → a3 = (n : Nat)) (hv5 : ∀ n st', (((stX (((stX (R >>= e)) >>= wantP ts en kwThen) >>= e)) >>= wantP ts en kwElse) >>= e) = .ok (n, st') → a5 = (n : Nat)) :
    ((stX (((stX (((stX (R >>= e)) >>= wantP ts en kwThen) >>= e)) >>= wantP ts en kwElse) >>= e)) >>= putP ts en ⟨7, a1, a3, a5, 0, ⟨#[]⟩, ⟨#[]⟩, ⟨#[]⟩, ⟨#[]⟩, beg⟩) = (R >>= ifP ts en e beg) := by
  rcases R with _ | st
  · rfl
  simp only [bind, Except.bind, stX] at hv1 hv3 hv5 ⊢
  simp only [ifP, bind, Except.bind]
  rcases h1 : e st with _ | ⟨y1, s1⟩
  · simp only [h1]
  simp only [h1]
  try simp only [h1] at hv1
  try simp only [h1] at hv3
  try simp only [h1] at hv5
  obtain rfl := hv1 _ _ rfl
  rcases h2 : wantP ts en kwThen s1 with _ | s2
  · simp only [h2]
  simp only [h2]
  try simp only [h2] at hv3
  try simp only [h2] at hv5
  rcases h3 : e s2 with _ | ⟨y3, s3⟩
  · simp only [h3]
  simp only [h3]
  try simp only [h3] at hv3
  try simp only [h3] at hv5
  obtain rfl := hv3 _ _ rfl
  rcases h4 : wantP ts en kwElse s3 with _ | s4
  · simp only [h4]
  simp only [h4]
  try simp only [h4] at hv5
  rcases h5 : e s4 with _ | ⟨y5, s5⟩
  · simp only [h5]
  simp only [h5]
  try simp only [h5] at hv5
  obtain rfl := hv5 _ _ rfl
  first | rfl | done
set_option maxRecDepth 100000 in
set_option maxHeartbeats 4000000 in
theorem pif_any (B G : Nat) (tv : Value) (ts : List Tk) (en : Int) (ov : Value) (d : Int) (e : PS → Except PE (Nat × PS)) (kE : Hid (ExC B G tv ts en ov 54 d e)) (beg : Int) (w : World) (nv : Value) (R : Except PE PS) (h : Hid (PqX B G tv ts en ov d w nv R)) :
    Calls Tryz.prog 108 #[.pointer (some ⟨G, 0, none⟩), .int .i64 beg] w (PqN B G tv ts en ov d w nv (R >>= ifP ts en e beg)) := by
  have hx0 := Lib.hid (NdBox.new h.out ⟨7, 0, 0, 0, 0, ⟨#[]⟩, ⟨#[]⟩, ⟨#[]⟩, ⟨#[]⟩, beg⟩)
  have hp0 := Lib.hid (h.out.below (below_alc w (.cells #[.int .i64 7, .int .i64 0, .int .i64 0, .int .i64 0, .int .i64 0, .string ⟨#[]⟩, .string ⟨#[]⟩, .string ⟨#[]⟩, .string ⟨#[]⟩, .int .i64 beg] 50)))
  have hS0 := Lib.hid (show Stp G w nv (w.alloc (.cells #[.int .i64 7, .int .i64 0, .int .i64 0, .int .i64 0, .int .i64 0, .string ⟨#[]⟩, .string ⟨#[]⟩, .string ⟨#[]⟩, .string ⟨#[]⟩, .int .i64 beg] 50)) nv from Stp.below (below_alc w (.cells #[.int .i64 7, .int .i64 0, .int .i64 0, .int .i64 0, .int .i64 0, .string ⟨#[]⟩, .string ⟨#[]⟩, .string ⟨#[]⟩, .string ⟨#[]⟩, .int .i64 beg] 50)))
  have hBw := Lib.hid h.out.lt.2.1
  go_enter Tryz.func108, Tryz.ntmps108
  go_wp2_with fail
  refine (kE.out _ nv _ hp0.out).mono ?_
  rintro e1 w1 ⟨a1, nv1, rfl, hq1, hs1, hv1⟩
  have hs1 := Lib.hid hs1
  have hv1 := Lib.hid hv1
  have hy1 := Lib.hid (hx0.out.step hs1.out)
  have hx1 := Lib.hid (hy1.out.set1 a1)
  have hp1 := Lib.hid (hq1.box hy1.out hBw.out 1 (.int .i64 a1))
  have hS1 := Lib.hid ((hS0.out.trans hs1.out).store (Nat.le_refl w.heap.size) 1 (.int .i64 a1))
  have cs := hy1.out.c1; have cf := hy1.out.fz; have cl := hy1.out.lt
  clear hx0 hS0 hp0 hs1 hq1
  clear hy1
  go_wp2_with fail
  clear cs cf cl
  refine (take_any B G tv ts en ov d _ nv1 _ kwThen hp1).mono ?_
  rintro e2 w2 ⟨rfl, hq2, hb2⟩
  have hs2 := Lib.hid (show Stp G _ nv1 w2 nv1 from Stp.of hb2)
  have hx2 := Lib.hid (hx1.out.step hs2.out)
  have hS2 := Lib.hid (hS1.out.trans hs2.out)
  have hp2 := Lib.hid hq2
  clear hx1 hS1 hp1 hs2 hb2 hq2
  go_wp2_with fail
  refine (kE.out _ nv1 _ hp2.out).mono ?_
  rintro e3 w3 ⟨a3, nv3, rfl, hq3, hs3, hv3⟩
  have hs3 := Lib.hid hs3
  have hv3 := Lib.hid hv3
  have hy3 := Lib.hid (hx2.out.step hs3.out)
  have hx3 := Lib.hid (hy3.out.set2 a3)
  have hp3 := Lib.hid (hq3.box hy3.out hBw.out 2 (.int .i64 a3))
  have hS3 := Lib.hid ((hS2.out.trans hs3.out).store (Nat.le_refl w.heap.size) 2 (.int .i64 a3))
  have cs := hy3.out.c2; have cf := hy3.out.fz; have cl := hy3.out.lt
  clear hx2 hS2 hp2 hs3 hq3
  clear hy3
  go_wp2_with fail
  clear cs cf cl
  refine (take_any B G tv ts en ov d _ nv3 _ kwElse hp3).mono ?_
  rintro e4 w4 ⟨rfl, hq4, hb4⟩
  have hs4 := Lib.hid (show Stp G _ nv3 w4 nv3 from Stp.of hb4)
  have hx4 := Lib.hid (hx3.out.step hs4.out)
  have hS4 := Lib.hid (hS3.out.trans hs4.out)
  have hp4 := Lib.hid hq4
  clear hx3 hS3 hp3 hs4 hb4 hq4
  go_wp2_with fail
  refine (kE.out _ nv3 _ hp4.out).mono ?_
  rintro e5 w5 ⟨a5, nv5, rfl, hq5, hs5, hv5⟩
  have hs5 := Lib.hid hs5
  have hv5 := Lib.hid hv5
  have hy5 := Lib.hid (hx4.out.step hs5.out)
  have hx5 := Lib.hid (hy5.out.set3 a5)
  have hp5 := Lib.hid (hq5.box hy5.out hBw.out 3 (.int .i64 a5))
  have hS5 := Lib.hid ((hS4.out.trans hs5.out).store (Nat.le_refl w.heap.size) 3 (.int .i64 a5))
  clear hx4 hS4 hp4 hs5 hq5
  have c0 := hy5.out.c0
  have c1 := hy5.out.c1
  have c2 := hy5.out.c2
  have c3 := hy5.out.c3
  have c4 := hy5.out.c4
  have c5 := hy5.out.c5
  have c6 := hy5.out.c6
  have c7 := hy5.out.c7
  have c8 := hy5.out.c8
  have c9 := hy5.out.c9
  have cf := hy5.out.fz; have cl := hy5.out.lt
  dsimp only at c0 c1 c2 c3 c4 c5 c6 c7 c8 c9
  have k4 := Lib.hid (node_any B G tv ts en ov d _ nv5 _ ⟨7, a1, a3, a5, 0, ⟨#[]⟩, ⟨#[]⟩, ⟨#[]⟩, ⟨#[]⟩, beg⟩ hp5)
  have he := Lib.hid (pif_eq (ts := ts) (en := en) (e := e) (beg := beg) (R := R) hv1.out hv3.out hv5.out)
  go_wp2_with fail
  refine k4.out.mono ?_
  rintro e4 w4 ⟨v, nv4, rfl, hp4, hs4, hv4⟩
  have hfin : Hid (PqN B G tv ts en ov d w nv (R >>= ifP ts en e beg) (.returned (.int .i64 v)) w4) := Lib.hid (by rw [← he.out]; exact ⟨v, nv4, rfl, hp4, hS5.out.trans hs4, hv4⟩)
  clear k4 hp4 hs4 hv4 he c0 c1 c2 c3 c4 c5 c6 c7 c8 c9 cf cl
  go_wp2_with fail
  go_ret
  exact hfin.out
theorem prec_eq {ts : List Tk} {en : Int} {e : PS → Except PE (Nat × PS)} {beg : Int} {R : Except PE PS} {x1 : ByteArray} {x2 : ByteArray} {a4 : Int} {a6 : Int} (hv1 : ∀ y st', (R >>= nameP ts en) = .ok (y, st') → x1 = y) (hv2 : ∀ y st', ((stX (R >>= nameP ts en)) >>= nameP ts en) = .ok (y, st') → x2 = y) (hv4 : ∀ n st', (((stX ((stX (R >>= nameP ts en)) >>= nameP ts en)) >>= wantP ts en sgEq) >>= e) = .ok (n, st') → a4 = (n : Nat)) (hv6 : ∀ n st', (((stX (((stX ((stX (R >>= nameP ts en)) >>= nameP ts en)) >>= wantP ts en sgEq) >>= e)) >>= wantP ts en kwIn) >>= e) = .ok (n, st') → a6 = (n : Nat)) :
    ((stX (((stX (((stX ((stX (R >>= nameP ts en)) >>= nameP ts en)) >>= wantP ts en sgEq) >>= e)) >>= wantP ts en kwIn) >>= e)) >>= putP ts en ⟨6, a4, a6, 0, 0, ⟨#[]⟩, x1, x2, ⟨#[]⟩, beg⟩) = (R >>= recP ts en e beg) := by
  rcases R with _ | st
  · rfl
  simp only [bind, Except.bind, stX] at hv1 hv2 hv4 hv6 ⊢
  simp only [recP, bind, Except.bind]
  rcases h1 : nameP ts en st with _ | ⟨y1, s1⟩
  · simp only [h1]
  simp only [h1]
  try simp only [h1] at hv1
  try simp only [h1] at hv2
  try simp only [h1] at hv4
  try simp only [h1] at hv6
  obtain rfl := hv1 _ _ rfl
  rcases h2 : nameP ts en s1 with _ | ⟨y2, s2⟩
  · simp only [h2]
  simp only [h2]
  try simp only [h2] at hv2
  try simp only [h2] at hv4
  try simp only [h2] at hv6
  obtain rfl := hv2 _ _ rfl
  rcases h3 : wantP ts en sgEq s2 with _ | s3
  · simp only [h3]
  simp only [h3]
  try simp only [h3] at hv4
  try simp only [h3] at hv6
  rcases h4 : e s3 with _ | ⟨y4, s4⟩
  · simp only [h4]
  simp only [h4]
  try simp only [h4] at hv4
  try simp only [h4] at hv6
  obtain rfl := hv4 _ _ rfl
  rcases h5 : wantP ts en kwIn s4 with _ | s5
  · simp only [h5]
  simp only [h5]
  try simp only [h5] at hv6
  rcases h6 : e s5 with _ | ⟨y6, s6⟩
  · simp only [h6]
  simp only [h6]
  try simp only [h6] at hv6
  obtain rfl := hv6 _ _ rfl
  first | rfl | done
set_option maxRecDepth 100000 in
set_option maxHeartbeats 4000000 in
theorem prec_any (B G : Nat) (tv : Value) (ts : List Tk) (en : Int) (ov : Value) (d : Int) (e : PS → Except PE (Nat × PS)) (kE : Hid (ExC B G tv ts en ov 54 d e)) (beg : Int) (w : World) (nv : Value) (R : Except PE PS) (h : Hid (PqX B G tv ts en ov d w nv R)) :
    Calls Tryz.prog 106 #[.pointer (some ⟨G, 0, none⟩), .int .i64 beg] w (PqN B G tv ts en ov d w nv (R >>= recP ts en e beg)) := by
  have hx0 := Lib.hid (NdBox.new h.out ⟨6, 0, 0, 0, 0, ⟨#[]⟩, ⟨#[]⟩, ⟨#[]⟩, ⟨#[]⟩, beg⟩)
  have hp0 := Lib.hid (h.out.below (below_alc w (.cells #[.int .i64 6, .int .i64 0, .int .i64 0, .int .i64 0, .int .i64 0, .string ⟨#[]⟩, .string ⟨#[]⟩, .string ⟨#[]⟩, .string ⟨#[]⟩, .int .i64 beg] 50)))
  have hS0 := Lib.hid (show Stp G w nv (w.alloc (.cells #[.int .i64 6, .int .i64 0, .int .i64 0, .int .i64 0, .int .i64 0, .string ⟨#[]⟩, .string ⟨#[]⟩, .string ⟨#[]⟩, .string ⟨#[]⟩, .int .i64 beg] 50)) nv from Stp.below (below_alc w (.cells #[.int .i64 6, .int .i64 0, .int .i64 0, .int .i64 0, .int .i64 0, .string ⟨#[]⟩, .string ⟨#[]⟩, .string ⟨#[]⟩, .string ⟨#[]⟩, .int .i64 beg] 50)))
  have hBw := Lib.hid h.out.lt.2.1
  go_enter Tryz.func106, Tryz.ntmps106
  go_wp2_with fail
  refine (pname_any B G tv ts en ov d _ nv _ hp0).mono ?_
  rintro e1 w1 ⟨x1, rfl, ⟨hq1, hb1⟩, hv1⟩
  have hs1 := Lib.hid (show Stp G _ nv w1 nv from Stp.of hb1)
  clear hb1
  have hv1 := Lib.hid hv1
  have hy1 := Lib.hid (hx0.out.step hs1.out)
  have hx1 := Lib.hid (hy1.out.set6 x1)
  have hp1 := Lib.hid (hq1.box hy1.out hBw.out 6 (.string x1))
  have hS1 := Lib.hid ((hS0.out.trans hs1.out).store (Nat.le_refl w.heap.size) 6 (.string x1))
  have cs := hy1.out.c6; have cf := hy1.out.fz; have cl := hy1.out.lt
  clear hx0 hS0 hp0 hs1 hq1
  clear hy1
  go_wp2_with fail
  clear cs cf cl
  refine (pname_any B G tv ts en ov d _ nv _ hp1).mono ?_
  rintro e2 w2 ⟨x2, rfl, ⟨hq2, hb2⟩, hv2⟩
  have hs2 := Lib.hid (show Stp G _ nv w2 nv from Stp.of hb2)
  clear hb2
  have hv2 := Lib.hid hv2
  have hy2 := Lib.hid (hx1.out.step hs2.out)
  have hx2 := Lib.hid (hy2.out.set7 x2)
  have hp2 := Lib.hid (hq2.box hy2.out hBw.out 7 (.string x2))
  have hS2 := Lib.hid ((hS1.out.trans hs2.out).store (Nat.le_refl w.heap.size) 7 (.string x2))
  have cs := hy2.out.c7; have cf := hy2.out.fz; have cl := hy2.out.lt
  clear hx1 hS1 hp1 hs2 hq2
  clear hy2
  go_wp2_with fail
  clear cs cf cl
  refine (take_any B G tv ts en ov d _ nv _ sgEq hp2).mono ?_
  rintro e3 w3 ⟨rfl, hq3, hb3⟩
  have hs3 := Lib.hid (show Stp G _ nv w3 nv from Stp.of hb3)
  have hx3 := Lib.hid (hx2.out.step hs3.out)
  have hS3 := Lib.hid (hS2.out.trans hs3.out)
  have hp3 := Lib.hid hq3
  clear hx2 hS2 hp2 hs3 hb3 hq3
  go_wp2_with fail
  refine (kE.out _ nv _ hp3.out).mono ?_
  rintro e4 w4 ⟨a4, nv4, rfl, hq4, hs4, hv4⟩
  have hs4 := Lib.hid hs4
  have hv4 := Lib.hid hv4
  have hy4 := Lib.hid (hx3.out.step hs4.out)
  have hx4 := Lib.hid (hy4.out.set1 a4)
  have hp4 := Lib.hid (hq4.box hy4.out hBw.out 1 (.int .i64 a4))
  have hS4 := Lib.hid ((hS3.out.trans hs4.out).store (Nat.le_refl w.heap.size) 1 (.int .i64 a4))
  have cs := hy4.out.c1; have cf := hy4.out.fz; have cl := hy4.out.lt
  clear hx3 hS3 hp3 hs4 hq4
  clear hy4
  go_wp2_with fail
  clear cs cf cl
  refine (take_any B G tv ts en ov d _ nv4 _ kwIn hp4).mono ?_
  rintro e5 w5 ⟨rfl, hq5, hb5⟩
  have hs5 := Lib.hid (show Stp G _ nv4 w5 nv4 from Stp.of hb5)
  have hx5 := Lib.hid (hx4.out.step hs5.out)
  have hS5 := Lib.hid (hS4.out.trans hs5.out)
  have hp5 := Lib.hid hq5
  clear hx4 hS4 hp4 hs5 hb5 hq5
  go_wp2_with fail
  refine (kE.out _ nv4 _ hp5.out).mono ?_
  rintro e6 w6 ⟨a6, nv6, rfl, hq6, hs6, hv6⟩
  have hs6 := Lib.hid hs6
  have hv6 := Lib.hid hv6
  have hy6 := Lib.hid (hx5.out.step hs6.out)
  have hx6 := Lib.hid (hy6.out.set2 a6)
  have hp6 := Lib.hid (hq6.box hy6.out hBw.out 2 (.int .i64 a6))
  have hS6 := Lib.hid ((hS5.out.trans hs6.out).store (Nat.le_refl w.heap.size) 2 (.int .i64 a6))
  clear hx5 hS5 hp5 hs6 hq6
  have c0 := hy6.out.c0
  have c1 := hy6.out.c1
  have c2 := hy6.out.c2
  have c3 := hy6.out.c3
  have c4 := hy6.out.c4
  have c5 := hy6.out.c5
  have c6 := hy6.out.c6
  have c7 := hy6.out.c7
  have c8 := hy6.out.c8
  have c9 := hy6.out.c9
  have cf := hy6.out.fz; have cl := hy6.out.lt
  dsimp only at c0 c1 c2 c3 c4 c5 c6 c7 c8 c9
  have k4 := Lib.hid (node_any B G tv ts en ov d _ nv6 _ ⟨6, a4, a6, 0, 0, ⟨#[]⟩, x1, x2, ⟨#[]⟩, beg⟩ hp6)
  have he := Lib.hid (prec_eq (ts := ts) (en := en) (e := e) (beg := beg) (R := R) hv1.out hv2.out hv4.out hv6.out)
  go_wp2_with fail
  refine k4.out.mono ?_
  rintro e4 w4 ⟨v, nv4, rfl, hp4, hs4, hv4⟩
  have hfin : Hid (PqN B G tv ts en ov d w nv (R >>= recP ts en e beg) (.returned (.int .i64 v)) w4) := Lib.hid (by rw [← he.out]; exact ⟨v, nv4, rfl, hp4, hS6.out.trans hs4, hv4⟩)
  clear k4 hp4 hs4 hv4 he c0 c1 c2 c3 c4 c5 c6 c7 c8 c9 cf cl
  go_wp2_with fail
  go_ret
  exact hfin.out
theorem phandle_eq {ts : List Tk} {en : Int} {e : PS → Except PE (Nat × PS)} {beg : Int} {R : Except PE PS} {a1 : Int} {x3 : ByteArray} {x4 : ByteArray} {x5 : ByteArray} {a7 : Int} {x9 : ByteArray} {a11 : Int} (hv1 : ∀ n st', (R >>= e) = .ok (n, st') → a1 = (n : Nat)) (hv3 : ∀ y st', (((stX (R >>= e)) >>= wantP ts en kwWith) >>= nameP ts en) = .ok (y, st') → x3 = y) (hv4 : ∀ y st', ((stX (((stX (R >>= e)) >>= wantP ts en kwWith) >>= nameP ts en)) >>= nameP ts en) = .ok (y, st') → x4 = y) (hv5 : ∀ y st', ((stX ((stX (((stX (R >>= e)) >>= wantP ts en kwWith) >>= nameP ts en)) >>= nameP ts en)) >>= nameP ts en) = .ok (y, st') → x5 = y) (hv7 : ∀ n st', (((stX ((stX ((stX (((stX (R >>= e)) >>= wantP ts en kwWith) >>= nameP ts en)) >>= nameP ts en)) >>= nameP ts en)) >>= wantP ts en sgArrow) >>= e) = .ok (n, st') → a7 = (n : Nat)) (hv9 : ∀ y st', (((stX (((stX ((stX ((stX (((stX (R >>= e)) >>= wantP ts en kwWith) >>= nameP ts en)) >>= nameP ts en)) >>= nameP ts en)) >>= wantP ts en sgArrow) >>= e)) >>= wantP ts en kwReturn) >>= nameP ts en) = .ok (y, st') → x9 = y) (hv11 : ∀ n st', (((stX (((stX (((stX ((stX ((stX (((stX (R >>= e)) >>= wantP ts en kwWith) >>= nameP ts en)) >>= nameP ts en)) >>= nameP ts en)) >>= wantP ts en sgArrow) >>= e)) >>= wantP ts en kwReturn) >>= nameP ts en)) >>= wantP ts en sgArrow) >>= e) = .ok (n, st') → a11 = (n : Nat)) :
    (((stX (((stX (((stX (((stX ((stX ((stX (((stX (R >>= e)) >>= wantP ts en kwWith) >>= nameP ts en)) >>= nameP ts en)) >>= nameP ts en)) >>= wantP ts en sgArrow) >>= e)) >>= wantP ts en kwReturn) >>= nameP ts en)) >>= wantP ts en sgArrow) >>= e)) >>= wantP ts en kwEnd) >>= putP ts en ⟨10, a1, a7, a11, 0, x3, x4, x5, x9, beg⟩) = (R >>= handleP ts en e beg) := by
  rcases R with _ | st
  · rfl
  simp only [bind, Except.bind, stX] at hv1 hv3 hv4 hv5 hv7 hv9 hv11 ⊢
  simp only [handleP, bind, Except.bind]
  rcases h1 : e st with _ | ⟨y1, s1⟩
  · simp only [h1]
  simp only [h1]
  try simp only [h1] at hv1
  try simp only [h1] at hv3
  try simp only [h1] at hv4
  try simp only [h1] at hv5
  try simp only [h1] at hv7
  try simp only [h1] at hv9
  try simp only [h1] at hv11
  obtain rfl := hv1 _ _ rfl
  rcases h2 : wantP ts en kwWith s1 with _ | s2
  · simp only [h2]
  simp only [h2]
  try simp only [h2] at hv3
  try simp only [h2] at hv4
  try simp only [h2] at hv5
  try simp only [h2] at hv7
  try simp only [h2] at hv9
  try simp only [h2] at hv11
  rcases h3 : nameP ts en s2 with _ | ⟨y3, s3⟩
  · simp only [h3]
  simp only [h3]
  try simp only [h3] at hv3
  try simp only [h3] at hv4
  try simp only [h3] at hv5
  try simp only [h3] at hv7
  try simp only [h3] at hv9
  try simp only [h3] at hv11
  obtain rfl := hv3 _ _ rfl
  rcases h4 : nameP ts en s3 with _ | ⟨y4, s4⟩
  · simp only [h4]
  simp only [h4]
  try simp only [h4] at hv4
  try simp only [h4] at hv5
  try simp only [h4] at hv7
  try simp only [h4] at hv9
  try simp only [h4] at hv11
  obtain rfl := hv4 _ _ rfl
  rcases h5 : nameP ts en s4 with _ | ⟨y5, s5⟩
  · simp only [h5]
  simp only [h5]
  try simp only [h5] at hv5
  try simp only [h5] at hv7
  try simp only [h5] at hv9
  try simp only [h5] at hv11
  obtain rfl := hv5 _ _ rfl
  rcases h6 : wantP ts en sgArrow s5 with _ | s6
  · simp only [h6]
  simp only [h6]
  try simp only [h6] at hv7
  try simp only [h6] at hv9
  try simp only [h6] at hv11
  rcases h7 : e s6 with _ | ⟨y7, s7⟩
  · simp only [h7]
  simp only [h7]
  try simp only [h7] at hv7
  try simp only [h7] at hv9
  try simp only [h7] at hv11
  obtain rfl := hv7 _ _ rfl
  rcases h8 : wantP ts en kwReturn s7 with _ | s8
  · simp only [h8]
  simp only [h8]
  try simp only [h8] at hv9
  try simp only [h8] at hv11
  rcases h9 : nameP ts en s8 with _ | ⟨y9, s9⟩
  · simp only [h9]
  simp only [h9]
  try simp only [h9] at hv9
  try simp only [h9] at hv11
  obtain rfl := hv9 _ _ rfl
  rcases h10 : wantP ts en sgArrow s9 with _ | s10
  · simp only [h10]
  simp only [h10]
  try simp only [h10] at hv11
  rcases h11 : e s10 with _ | ⟨y11, s11⟩
  · simp only [h11]
  simp only [h11]
  try simp only [h11] at hv11
  obtain rfl := hv11 _ _ rfl
  rcases h12 : wantP ts en kwEnd s11 with _ | s12
  · simp only [h12]
  simp only [h12]
  first | rfl | done
set_option maxRecDepth 100000 in
set_option maxHeartbeats 4000000 in
theorem phandle_any (B G : Nat) (tv : Value) (ts : List Tk) (en : Int) (ov : Value) (d : Int) (e : PS → Except PE (Nat × PS)) (kE : Hid (ExC B G tv ts en ov 54 d e)) (beg : Int) (w : World) (nv : Value) (R : Except PE PS) (h : Hid (PqX B G tv ts en ov d w nv R)) :
    Calls Tryz.prog 136 #[.pointer (some ⟨G, 0, none⟩), .int .i64 beg] w (PqN B G tv ts en ov d w nv (R >>= handleP ts en e beg)) := by
  have hx0 := Lib.hid (NdBox.new h.out ⟨10, 0, 0, 0, 0, ⟨#[]⟩, ⟨#[]⟩, ⟨#[]⟩, ⟨#[]⟩, beg⟩)
  have hp0 := Lib.hid (h.out.below (below_alc w (.cells #[.int .i64 10, .int .i64 0, .int .i64 0, .int .i64 0, .int .i64 0, .string ⟨#[]⟩, .string ⟨#[]⟩, .string ⟨#[]⟩, .string ⟨#[]⟩, .int .i64 beg] 50)))
  have hS0 := Lib.hid (show Stp G w nv (w.alloc (.cells #[.int .i64 10, .int .i64 0, .int .i64 0, .int .i64 0, .int .i64 0, .string ⟨#[]⟩, .string ⟨#[]⟩, .string ⟨#[]⟩, .string ⟨#[]⟩, .int .i64 beg] 50)) nv from Stp.below (below_alc w (.cells #[.int .i64 10, .int .i64 0, .int .i64 0, .int .i64 0, .int .i64 0, .string ⟨#[]⟩, .string ⟨#[]⟩, .string ⟨#[]⟩, .string ⟨#[]⟩, .int .i64 beg] 50)))
  have hBw := Lib.hid h.out.lt.2.1
  go_enter Tryz.func136, Tryz.ntmps136
  go_wp2_with fail
  refine (kE.out _ nv _ hp0.out).mono ?_
  rintro e1 w1 ⟨a1, nv1, rfl, hq1, hs1, hv1⟩
  have hs1 := Lib.hid hs1
  have hv1 := Lib.hid hv1
  have hy1 := Lib.hid (hx0.out.step hs1.out)
  have hx1 := Lib.hid (hy1.out.set1 a1)
  have hp1 := Lib.hid (hq1.box hy1.out hBw.out 1 (.int .i64 a1))
  have hS1 := Lib.hid ((hS0.out.trans hs1.out).store (Nat.le_refl w.heap.size) 1 (.int .i64 a1))
  have cs := hy1.out.c1; have cf := hy1.out.fz; have cl := hy1.out.lt
  clear hx0 hS0 hp0 hs1 hq1
  clear hy1
  go_wp2_with fail
  clear cs cf cl
  refine (take_any B G tv ts en ov d _ nv1 _ kwWith hp1).mono ?_
  rintro e2 w2 ⟨rfl, hq2, hb2⟩
  have hs2 := Lib.hid (show Stp G _ nv1 w2 nv1 from Stp.of hb2)
  have hx2 := Lib.hid (hx1.out.step hs2.out)
  have hS2 := Lib.hid (hS1.out.trans hs2.out)
  have hp2 := Lib.hid hq2
  clear hx1 hS1 hp1 hs2 hb2 hq2
  go_wp2_with fail
  refine (pname_any B G tv ts en ov d _ nv1 _ hp2).mono ?_
  rintro e3 w3 ⟨x3, rfl, ⟨hq3, hb3⟩, hv3⟩
  have hs3 := Lib.hid (show Stp G _ nv1 w3 nv1 from Stp.of hb3)
  clear hb3
  have hv3 := Lib.hid hv3
  have hy3 := Lib.hid (hx2.out.step hs3.out)
  have hx3 := Lib.hid (hy3.out.set5 x3)
  have hp3 := Lib.hid (hq3.box hy3.out hBw.out 5 (.string x3))
  have hS3 := Lib.hid ((hS2.out.trans hs3.out).store (Nat.le_refl w.heap.size) 5 (.string x3))
  have cs := hy3.out.c5; have cf := hy3.out.fz; have cl := hy3.out.lt
  clear hx2 hS2 hp2 hs3 hq3
  clear hy3
  go_wp2_with fail
  clear cs cf cl
  refine (pname_any B G tv ts en ov d _ nv1 _ hp3).mono ?_
  rintro e4 w4 ⟨x4, rfl, ⟨hq4, hb4⟩, hv4⟩
  have hs4 := Lib.hid (show Stp G _ nv1 w4 nv1 from Stp.of hb4)
  clear hb4
  have hv4 := Lib.hid hv4
  have hy4 := Lib.hid (hx3.out.step hs4.out)
  have hx4 := Lib.hid (hy4.out.set6 x4)
  have hp4 := Lib.hid (hq4.box hy4.out hBw.out 6 (.string x4))
  have hS4 := Lib.hid ((hS3.out.trans hs4.out).store (Nat.le_refl w.heap.size) 6 (.string x4))
  have cs := hy4.out.c6; have cf := hy4.out.fz; have cl := hy4.out.lt
  clear hx3 hS3 hp3 hs4 hq4
  clear hy4
  go_wp2_with fail
  clear cs cf cl
  refine (pname_any B G tv ts en ov d _ nv1 _ hp4).mono ?_
  rintro e5 w5 ⟨x5, rfl, ⟨hq5, hb5⟩, hv5⟩
  have hs5 := Lib.hid (show Stp G _ nv1 w5 nv1 from Stp.of hb5)
  clear hb5
  have hv5 := Lib.hid hv5
  have hy5 := Lib.hid (hx4.out.step hs5.out)
  have hx5 := Lib.hid (hy5.out.set7 x5)
  have hp5 := Lib.hid (hq5.box hy5.out hBw.out 7 (.string x5))
  have hS5 := Lib.hid ((hS4.out.trans hs5.out).store (Nat.le_refl w.heap.size) 7 (.string x5))
  have cs := hy5.out.c7; have cf := hy5.out.fz; have cl := hy5.out.lt
  clear hx4 hS4 hp4 hs5 hq5
  clear hy5
  go_wp2_with fail
  clear cs cf cl
  refine (take_any B G tv ts en ov d _ nv1 _ sgArrow hp5).mono ?_
  rintro e6 w6 ⟨rfl, hq6, hb6⟩
  have hs6 := Lib.hid (show Stp G _ nv1 w6 nv1 from Stp.of hb6)
  have hx6 := Lib.hid (hx5.out.step hs6.out)
  have hS6 := Lib.hid (hS5.out.trans hs6.out)
  have hp6 := Lib.hid hq6
  clear hx5 hS5 hp5 hs6 hb6 hq6
  go_wp2_with fail
  refine (kE.out _ nv1 _ hp6.out).mono ?_
  rintro e7 w7 ⟨a7, nv7, rfl, hq7, hs7, hv7⟩
  have hs7 := Lib.hid hs7
  have hv7 := Lib.hid hv7
  have hy7 := Lib.hid (hx6.out.step hs7.out)
  have hx7 := Lib.hid (hy7.out.set2 a7)
  have hp7 := Lib.hid (hq7.box hy7.out hBw.out 2 (.int .i64 a7))
  have hS7 := Lib.hid ((hS6.out.trans hs7.out).store (Nat.le_refl w.heap.size) 2 (.int .i64 a7))
  have cs := hy7.out.c2; have cf := hy7.out.fz; have cl := hy7.out.lt
  clear hx6 hS6 hp6 hs7 hq7
  clear hy7
  go_wp2_with fail
  clear cs cf cl
  refine (take_any B G tv ts en ov d _ nv7 _ kwReturn hp7).mono ?_
  rintro e8 w8 ⟨rfl, hq8, hb8⟩
  have hs8 := Lib.hid (show Stp G _ nv7 w8 nv7 from Stp.of hb8)
  have hx8 := Lib.hid (hx7.out.step hs8.out)
  have hS8 := Lib.hid (hS7.out.trans hs8.out)
  have hp8 := Lib.hid hq8
  clear hx7 hS7 hp7 hs8 hb8 hq8
  go_wp2_with fail
  refine (pname_any B G tv ts en ov d _ nv7 _ hp8).mono ?_
  rintro e9 w9 ⟨x9, rfl, ⟨hq9, hb9⟩, hv9⟩
  have hs9 := Lib.hid (show Stp G _ nv7 w9 nv7 from Stp.of hb9)
  clear hb9
  have hv9 := Lib.hid hv9
  have hy9 := Lib.hid (hx8.out.step hs9.out)
  have hx9 := Lib.hid (hy9.out.set8 x9)
  have hp9 := Lib.hid (hq9.box hy9.out hBw.out 8 (.string x9))
  have hS9 := Lib.hid ((hS8.out.trans hs9.out).store (Nat.le_refl w.heap.size) 8 (.string x9))
  have cs := hy9.out.c8; have cf := hy9.out.fz; have cl := hy9.out.lt
  clear hx8 hS8 hp8 hs9 hq9
  clear hy9
  go_wp2_with fail
  clear cs cf cl
  refine (take_any B G tv ts en ov d _ nv7 _ sgArrow hp9).mono ?_
  rintro e10 w10 ⟨rfl, hq10, hb10⟩
  have hs10 := Lib.hid (show Stp G _ nv7 w10 nv7 from Stp.of hb10)
  have hx10 := Lib.hid (hx9.out.step hs10.out)
  have hS10 := Lib.hid (hS9.out.trans hs10.out)
  have hp10 := Lib.hid hq10
  clear hx9 hS9 hp9 hs10 hb10 hq10
  go_wp2_with fail
  refine (kE.out _ nv7 _ hp10.out).mono ?_
  rintro e11 w11 ⟨a11, nv11, rfl, hq11, hs11, hv11⟩
  have hs11 := Lib.hid hs11
  have hv11 := Lib.hid hv11
  have hy11 := Lib.hid (hx10.out.step hs11.out)
  have hx11 := Lib.hid (hy11.out.set3 a11)
  have hp11 := Lib.hid (hq11.box hy11.out hBw.out 3 (.int .i64 a11))
  have hS11 := Lib.hid ((hS10.out.trans hs11.out).store (Nat.le_refl w.heap.size) 3 (.int .i64 a11))
  have cs := hy11.out.c3; have cf := hy11.out.fz; have cl := hy11.out.lt
  clear hx10 hS10 hp10 hs11 hq11
  clear hy11
  go_wp2_with fail
  clear cs cf cl
  refine (take_any B G tv ts en ov d _ nv11 _ kwEnd hp11).mono ?_
  rintro e12 w12 ⟨rfl, hq12, hb12⟩
  have hs12 := Lib.hid (show Stp G _ nv11 w12 nv11 from Stp.of hb12)
  have hx12 := Lib.hid (hx11.out.step hs12.out)
  have hS12 := Lib.hid (hS11.out.trans hs12.out)
  have hp12 := Lib.hid hq12
  clear hx11 hS11 hp11 hs12 hb12 hq12
  have c0 := hx12.out.c0
  have c1 := hx12.out.c1
  have c2 := hx12.out.c2
  have c3 := hx12.out.c3
  have c4 := hx12.out.c4
  have c5 := hx12.out.c5
  have c6 := hx12.out.c6
  have c7 := hx12.out.c7
  have c8 := hx12.out.c8
  have c9 := hx12.out.c9
  have cf := hx12.out.fz; have cl := hx12.out.lt
  dsimp only at c0 c1 c2 c3 c4 c5 c6 c7 c8 c9
  have k4 := Lib.hid (node_any B G tv ts en ov d _ nv11 _ ⟨10, a1, a7, a11, 0, x3, x4, x5, x9, beg⟩ hp12)
  have he := Lib.hid (phandle_eq (ts := ts) (en := en) (e := e) (beg := beg) (R := R) hv1.out hv3.out hv4.out hv5.out hv7.out hv9.out hv11.out)
  go_wp2_with fail
  refine k4.out.mono ?_
  rintro e4 w4 ⟨v, nv4, rfl, hp4, hs4, hv4⟩
  have hfin : Hid (PqN B G tv ts en ov d w nv (R >>= handleP ts en e beg) (.returned (.int .i64 v)) w4) := Lib.hid (by rw [← he.out]; exact ⟨v, nv4, rfl, hp4, hS12.out.trans hs4, hv4⟩)
  clear k4 hp4 hs4 hv4 he c0 c1 c2 c3 c4 c5 c6 c7 c8 c9 cf cl
  go_wp2_with fail
  go_ret
  exact hfin.out
end Go.Proofs.YtidlljookjicpaaGreatDoor

/- The program's parser: may an atom begin here? -/
/- The program's parser: may an atom begin here? -/
namespace Go.Proofs.YtidlljookjicpaaGreatDoor
open Go.RowKit
set_option linter.unusedVariables false
set_option linter.unusedSimpArgs false

def startsX (ts : List Tk) (R : Except PE PS) : Bool := match R with
  | .ok st => startsP ts st.i
  | .error _ => false
theorem start_eq (ts : List Tk) (en : Int) (R : Except PE PS) : startsX ts R = ((peekX ts en R).kind == 0 || (peekX ts en R).kind == 1 || isX ts R kwTrue || isX ts R kwFalse || isX ts R sgOpen || isX ts R kwHandle) := by
  cases R with
  | error e => rfl
  | ok st =>
    show startsP ts st.i = (_ || _ || isP ts st.i kwTrue || isP ts st.i kwFalse || isP ts st.i sgOpen || isP ts st.i kwHandle)
    rw [peek_ok]
    unfold startsP
    cases hg : ts[st.i]? with
    | some t => rfl
    | none =>
      have e : ∀ u, isP ts st.i u = false := fun u => by unfold isP; rw [hg]
      simp only [e]; rfl
set_option maxRecDepth 100000 in
set_option maxHeartbeats 2000000 in
theorem isAtom_any (B G : Nat) (tv : Value) (ts : List Tk) (en : Int) (ov : Value) (d : Int) (w : World) (nv : Value) (R : Except PE PS) (h : Hid (PqX B G tv ts en ov d w nv R)) :
    Calls Tryz.prog 134 #[.pointer (some ⟨G, 0, none⟩)] w fun e w' => e = .returned (.bool (startsX ts R)) ∧ Below w.heap.size w w' := by
  have k := Lib.hid (peek_any B G tv ts en ov d w nv R h)
  rw [start_eq ts en R]
  have k1 := Lib.hid fun (W : World) (hb : Below w.heap.size w W) => is_any B G tv ts en ov d W nv R kwTrue (Lib.hid (h.out.below hb))
  have k2 := Lib.hid fun (W : World) (hb : Below w.heap.size w W) => is_any B G tv ts en ov d W nv R kwFalse (Lib.hid (h.out.below hb))
  have k3 := Lib.hid fun (W : World) (hb : Below w.heap.size w W) => is_any B G tv ts en ov d W nv R sgOpen (Lib.hid (h.out.below hb))
  have k4 := Lib.hid fun (W : World) (hb : Below w.heap.size w W) => is_any B G tv ts en ov d W nv R kwHandle (Lib.hid (h.out.below hb))
  generalize isX ts R kwTrue = q1 at k1 ⊢
  generalize isX ts R kwFalse = q2 at k2 ⊢
  generalize isX ts R sgOpen = q3 at k3 ⊢
  generalize isX ts R kwHandle = q4 at k4 ⊢
  generalize peekX ts en R = t at k ⊢
  unfold tkV at k
  obtain ⟨tk, tx, tn, ta⟩ := t
  dsimp only at k ⊢
  have f0 := tkf0
  go_enter Tryz.func134, Tryz.ntmps134
  go_wp2_with fail
  refine k.out.mono ?_
  rintro e w1 ⟨rfl, hb⟩
  have hb := Lib.hid hb
  clear k
  by_cases h0 : tk = 0
  · subst h0
    go_wp2_with fail
    go_ret
    exact ⟨by simp, hb.out⟩
  by_cases h1 : tk = 1
  · subst h1
    clear h0
    go_wp2_with fail
    go_ret
    exact ⟨by simp, hb.out⟩
  have e0 : (tk == 0) = false := beq_eq_false_iff_ne.2 h0
  have e1 : (tk == 1) = false := beq_eq_false_iff_ne.2 h1
  clear h0 h1
  go_wp2_with fail
  refine (k1.out w1 hb.out).mono ?_
  rintro e w2 ⟨rfl, hb2⟩
  have hb2 := Lib.hid (belT hb.out hb2)
  cases q1
  · go_wp2_with fail
    refine (k2.out w2 hb2.out).mono ?_
    rintro e w3 ⟨rfl, hb3⟩
    have hb3 := Lib.hid (belT hb2.out hb3)
    cases q2
    · go_wp2_with fail
      refine (k3.out w3 hb3.out).mono ?_
      rintro e w4 ⟨rfl, hb4⟩
      have hb4 := Lib.hid (belT hb3.out hb4)
      cases q3
      · go_wp2_with fail
        refine (k4.out w4 hb4.out).mono ?_
        rintro e w5 ⟨rfl, hb5⟩
        have hb5 := Lib.hid (belT hb4.out hb5)
        go_wp2_with fail
        go_ret
        exact ⟨by rw [e0, e1]; rfl, hb5.out⟩
      · go_wp2_with fail
        go_ret
        exact ⟨by rw [e0, e1]; rfl, hb4.out⟩
    · go_wp2_with fail
      go_ret
      exact ⟨by rw [e0, e1]; rfl, hb3.out⟩
  · go_wp2_with fail
    go_ret
    exact ⟨by rw [e0, e1]; rfl, hb2.out⟩
end Go.Proofs.YtidlljookjicpaaGreatDoor

/- The program's parser: an atom, plain. -/
namespace Go.Proofs.YtidlljookjicpaaGreatDoor
open Go.RowKit
set_option linter.unusedVariables false
set_option linter.unusedSimpArgs false

section
variable {ts : List Tk} {en : Int} {e : PS → Except PE (Nat × PS)} {R : Except PE PS}
theorem at_some {st : PS} {t : Tk} (hg : ts[st.i]? = some t) : (Except.ok st >>= atomP ts en e) = (if t.kind = 0 then putP ts en ⟨0, 0, 0, 0, 0, bs t.text, ba0, ba0, ba0, t.at_⟩ ⟨st.i + 1, st.ns⟩
    else if t.kind = 1 then putP ts en ⟨1, 0, 0, 0, t.num, ba0, ba0, ba0, ba0, t.at_⟩ ⟨st.i + 1, st.ns⟩
    else if isP ts st.i kwTrue then putP ts en ⟨2, 0, 0, 0, 1, ba0, ba0, ba0, ba0, t.at_⟩ ⟨st.i + 1, st.ns⟩
    else if isP ts st.i kwFalse then putP ts en ⟨2, 0, 0, 0, 0, ba0, ba0, ba0, ba0, t.at_⟩ ⟨st.i + 1, st.ns⟩
    else if isP ts st.i sgOpen then (do
      let (a, st) ← e ⟨st.i + 1, st.ns⟩
      let st ← wantP ts en sgShut st
      .ok (a, st))
    else if isP ts st.i kwHandle then handleP ts en e t.at_ ⟨st.i + 1, st.ns⟩
    else .error (403, hereP ts en st.i)) := by
  show atomP ts en e st = _
  unfold atomP
  rw [hg]
theorem at_peek {t : Tk} (hp : peekX ts en R = t) (hk : t.kind ≠ -1) : ∃ st, R = .ok st ∧ ts[st.i]? = some t := by
  cases R with
  | error e => exact absurd (hp ▸ rfl) hk
  | ok st =>
    rw [peek_ok] at hp
    cases hg : ts[st.i]? with
    | none => rw [hg] at hp; exact absurd (hp ▸ rfl) hk
    | some u => rw [hg] at hp; exact ⟨st, rfl, by rw [hg]; exact congrArg some hp⟩
theorem at_is {t : Tk} {u : List UInt8} (hp : peekX ts en R = t) (hu : isX ts R u = true) : ∃ st, R = .ok st ∧ ts[st.i]? = some t ∧ isP ts st.i u = true ∧ takeX ts R u = .ok ⟨st.i + 1, st.ns⟩ := by
  obtain ⟨st, rfl, hi, hx⟩ := isX_ok hu
  rw [peek_ok, List.getElem?_eq_getElem hi] at hp
  exact ⟨st, rfl, by rw [List.getElem?_eq_getElem hi]; exact congrArg some hp, hu, hx⟩
theorem at0 {t : Tk} (hp : peekX ts en R = t) (hk : t.kind = 0) : ∃ st, R = .ok st ∧ st.i < ts.length ∧ (R >>= atomP ts en e) = putP ts en ⟨0, 0, 0, 0, 0, bs t.text, ⟨#[]⟩, ⟨#[]⟩, ⟨#[]⟩, t.at_⟩ ⟨st.i + 1, st.ns⟩ := by
  obtain ⟨st, rfl, hg⟩ := at_peek hp (by rw [hk]; decide)
  exact ⟨st, rfl, (List.getElem?_eq_some_iff.1 hg).1, by rw [at_some hg, if_pos hk]; rfl⟩
theorem at1 {t : Tk} (hp : peekX ts en R = t) (hk : t.kind = 1) : ∃ st, R = .ok st ∧ st.i < ts.length ∧ (R >>= atomP ts en e) = putP ts en ⟨1, 0, 0, 0, t.num, ⟨#[]⟩, ⟨#[]⟩, ⟨#[]⟩, ⟨#[]⟩, t.at_⟩ ⟨st.i + 1, st.ns⟩ := by
  obtain ⟨st, rfl, hg⟩ := at_peek hp (by rw [hk]; decide)
  exact ⟨st, rfl, (List.getElem?_eq_some_iff.1 hg).1, by rw [at_some hg, if_neg (by rw [hk]; decide), if_pos hk]; rfl⟩
theorem at2 {t : Tk} (hp : peekX ts en R = t) (h0 : t.kind ≠ 0) (h1 : t.kind ≠ 1) (h2 : isX ts R kwTrue = true) : (R >>= atomP ts en e) = (takeX ts R kwTrue >>= putP ts en ⟨2, 0, 0, 0, 1, ⟨#[]⟩, ⟨#[]⟩, ⟨#[]⟩, ⟨#[]⟩, t.at_⟩) := by
  obtain ⟨st, rfl, hg, hu, hx⟩ := at_is hp h2
  rw [hx, at_some hg, if_neg h0, if_neg h1, if_pos hu]; rfl
theorem at3 {t : Tk} (hp : peekX ts en R = t) (h0 : t.kind ≠ 0) (h1 : t.kind ≠ 1) (h2 : isX ts R kwTrue = false) (h3 : isX ts R kwFalse = true) : (R >>= atomP ts en e) = (takeX ts R kwFalse >>= putP ts en ⟨2, 0, 0, 0, 0, ⟨#[]⟩, ⟨#[]⟩, ⟨#[]⟩, ⟨#[]⟩, t.at_⟩) := by
  obtain ⟨st, rfl, hg, hu, hx⟩ := at_is hp h3
  have h2 : isP ts st.i kwTrue = false := h2
  rw [hx, at_some hg, if_neg h0, if_neg h1, if_neg (by rw [h2]; decide), if_pos hu]; rfl
theorem at4 {t : Tk} (hp : peekX ts en R = t) (h0 : t.kind ≠ 0) (h1 : t.kind ≠ 1) (h2 : isX ts R kwTrue = false) (h3 : isX ts R kwFalse = false) (h4 : isX ts R sgOpen = true) : (R >>= atomP ts en e) = ((takeX ts R sgOpen >>= e) >>= fun p => wantP ts en sgShut p.2 >>= fun s => .ok (p.1, s)) := by
  obtain ⟨st, rfl, hg, hu, hx⟩ := at_is hp h4
  have h2 : isP ts st.i kwTrue = false := h2
  have h3 : isP ts st.i kwFalse = false := h3
  rw [hx, at_some hg, if_neg h0, if_neg h1, if_neg (by rw [h2]; decide), if_neg (by rw [h3]; decide), if_pos hu]; rfl
theorem at5 {t : Tk} (hp : peekX ts en R = t) (h0 : t.kind ≠ 0) (h1 : t.kind ≠ 1) (h2 : isX ts R kwTrue = false) (h3 : isX ts R kwFalse = false) (h4 : isX ts R sgOpen = false) (h5 : isX ts R kwHandle = true) : (R >>= atomP ts en e) = (takeX ts R kwHandle >>= handleP ts en e t.at_) := by
  obtain ⟨st, rfl, hg, hu, hx⟩ := at_is hp h5
  have h2 : isP ts st.i kwTrue = false := h2
  have h3 : isP ts st.i kwFalse = false := h3
  have h4 : isP ts st.i sgOpen = false := h4
  rw [hx, at_some hg, if_neg h0, if_neg h1, if_neg (by rw [h2]; decide), if_neg (by rw [h3]; decide), if_neg (by rw [h4]; decide), if_pos hu]; rfl
theorem at6 {t : Tk} (hp : peekX ts en R = t) (h0 : t.kind ≠ 0) (h1 : t.kind ≠ 1) (h2 : isX ts R kwTrue = false) (h3 : isX ts R kwFalse = false) (h4 : isX ts R sgOpen = false) (h5 : isX ts R kwHandle = false) : stX (R >>= atomP ts en e) = failX ts en R 403 ∧ ∀ x st', (R >>= atomP ts en e) ≠ .ok (x, st') := by
  cases R with
  | error e => exact ⟨rfl, fun x st' hc => by cases hc⟩
  | ok st =>
    have h2 : isP ts st.i kwTrue = false := h2
    have h3 : isP ts st.i kwFalse = false := h3
    have h4 : isP ts st.i sgOpen = false := h4
    have h5 : isP ts st.i kwHandle = false := h5
    have k : (Except.ok st >>= atomP ts en e) = .error (403, hereP ts en st.i) := by
      cases hg : ts[st.i]? with
      | none => show atomP ts en e st = _; unfold atomP; rw [hg]
      | some u =>
        have hu : u = t := by rw [peek_ok, hg] at hp; exact hp
        subst hu
        rw [at_some hg, if_neg h0, if_neg h1, if_neg (by rw [h2]; decide), if_neg (by rw [h3]; decide), if_neg (by rw [h4]; decide), if_neg (by rw [h5]; decide)]
    rw [k]
    exact ⟨rfl, fun x st' hc => by cases hc⟩
theorem shut_st {R' : Except PE (Nat × PS)} : stX (R' >>= fun p => wantP ts en sgShut p.2 >>= fun s => (Except.ok (p.1, s) : Except PE (Nat × PS))) = (stX R' >>= wantP ts en sgShut) := by
  cases R' with
  | error e => rfl
  | ok p =>
    show stX (wantP ts en sgShut p.2 >>= _) = wantP ts en sgShut p.2
    cases wantP ts en sgShut p.2 <;> rfl
theorem shut_ok {R' : Except PE (Nat × PS)} {x : Nat} {st' : PS} (h : (R' >>= fun p => wantP ts en sgShut p.2 >>= fun s => (Except.ok (p.1, s) : Except PE (Nat × PS))) = .ok (x, st')) : ∃ s, R' = .ok (x, s) := by
  cases R' with
  | error e => cases h
  | ok p =>
    obtain ⟨a, s⟩ := p
    have h' : (wantP ts en sgShut s >>= fun u => (Except.ok (a, u) : Except PE (Nat × PS))) = .ok (x, st') := h
    cases hw : wantP ts en sgShut s with
    | error e => rw [hw] at h'; cases h'
    | ok u =>
      rw [hw] at h'
      have h2 : (Except.ok (a, u) : Except PE (Nat × PS)) = .ok (x, st') := h'
      injection h2 with h2
      injection h2 with h2 _
      exact ⟨s, by rw [h2]⟩
end
end Go.Proofs.YtidlljookjicpaaGreatDoor

/- The program's parser: an atom. -/
namespace Go.Proofs.YtidlljookjicpaaGreatDoor
open Go.RowKit
set_option linter.unusedVariables false
set_option linter.unusedSimpArgs false

/-- a variable of a call that holds a token. -/
structure TkB (G : Nat) (w : World) (g : Nat) (t : Tk) : Prop where
  c0 : w.cell? ⟨g, 0, none⟩ = some (.int .i64 t.kind)
  c1 : w.cell? ⟨g, 1, none⟩ = some (.string (bs t.text))
  c2 : w.cell? ⟨g, 2, none⟩ = some (.int .i64 t.num)
  c3 : w.cell? ⟨g, 3, none⟩ = some (.int .i64 t.at_)
  gb : g ≠ G
  lt : g < w.heap.size
theorem TkB.step {G g : Nat} {w w' : World} {t : Tk} (h : TkB G w g t) (hb : Bar (fun k => k = G) w w') : TkB G w' g t :=
  ⟨hb.cell h.c0 h.gb, hb.cell h.c1 h.gb, hb.cell h.c2 h.gb, hb.cell h.c3 h.gb, h.gb, by have := hb.size; have := h.lt; omega⟩
theorem TkB.new (G : Nat) (w : World) (t : Tk) (hG : G < w.heap.size) : TkB G (w.alloc (.cells #[.int .i64 t.kind, .string (bs t.text), .int .i64 t.num, .int .i64 t.at_] 125)) w.heap.size t := by
  refine ⟨?_, ?_, ?_, ?_, by omega, by simp⟩ <;> (rw [World.cell?_alloc_at _ _ _ _ rfl]; rfl)
set_option maxRecDepth 100000 in
set_option maxHeartbeats 8000000 in
theorem atom_any (B G : Nat) (tv : Value) (ts : List Tk) (en : Int) (ov : Value) (d : Int) (e : PS → Except PE (Nat × PS)) (kE : Hid (ExC B G tv ts en ov 54 d e)) (w : World) (nv : Value) (R : Except PE PS) (h : Hid (PqX B G tv ts en ov d w nv R)) :
    Calls Tryz.prog 135 #[.pointer (some ⟨G, 0, none⟩)] w (PqN B G tv ts en ov d w nv (R >>= atomP ts en e)) := by
  have k := Lib.hid (peek_any B G tv ts en ov d w nv R h)
  obtain ⟨t, hp⟩ : ∃ t, peekX ts en R = t := ⟨_, rfl⟩
  rw [hp] at k
  unfold tkV at k
  obtain ⟨tk, tx, tn, ta⟩ := t
  have hp := Lib.hid hp
  dsimp only at k
  go_enter Tryz.func135, Tryz.ntmps135
  go_wp2_with fail
  refine k.out.mono ?_
  rintro e1 w1 ⟨rfl, hb⟩
  clear k
  have hb1 := Lib.hid hb
  have hlt := Lib.hid (h.out.below hb).lt
  have hx1 := Lib.hid (TkB.new G w1 ⟨tk, tx, tn, ta⟩ (by have := hlt.out.1; have := hlt.out.2.1; omega))
  have hp1 := Lib.hid ((h.out.below hb).below (below_alc w1 (.cells #[.int .i64 tk, .string (bs tx), .int .i64 tn, .int .i64 ta] 125)))
  have hS1 := Lib.hid (show Stp G w nv (w1.alloc (.cells #[.int .i64 tk, .string (bs tx), .int .i64 tn, .int .i64 ta] 125)) nv from (Stp.below hb).next (below_alc w1 (.cells #[.int .i64 tk, .string (bs tx), .int .i64 tn, .int .i64 ta] 125)))
  clear hb
  obtain ⟨W1, hW1⟩ : ∃ W, w1.alloc (.cells #[.int .i64 tk, .string (bs tx), .int .i64 tn, .int .i64 ta] 125) = W := ⟨_, rfl⟩
  rw [hW1] at hx1 hp1 hS1
  go_upto_region 2 with fail
  generalize w1.heap.size = g at hx1 ⊢
  clear hW1 hb1 hlt
  by_cases h0 : tk = 0
  · obtain ⟨st, rfl, hi, hn⟩ := at0 (e := e) hp.out h0
    subst h0
    have hn := Lib.hid hn
    have h2 := Lib.hid (show PqW B G tv ts en ov d W1 nv st .nilIface from hp1.out)
    have h4 := Lib.hid (h2.out.setI (st.i + 1) hi)
    have hi := Lib.hid hi
    have c0 := hx1.out.c0; have c1 := hx1.out.c1; have c2 := hx1.out.c2; have c3 := hx1.out.c3; have cl := hx1.out.lt
    dsimp only at c0 c1 c2 c3
    have cg : ¬ G = g := fun e => hx1.out.gb e.symm
    have h3 := h2.out.i
    have hf := h2.out.fg
    have hgl : G < W1.heap.size := by have := h2.out.gB; have := h2.out.bl; omega
    have hr1 : (st.i : Int) ≤ 1000000 := by have := h2.out.il; have := h2.out.tl; omega
    have hr0 : (0 : Int) ≤ (st.i : Int) := by omega
    have k4 := Lib.hid (node_any B G tv ts en ov d _ nv (.ok ⟨st.i + 1, st.ns⟩) ⟨0, 0, 0, 0, 0, bs tx, ⟨#[]⟩, ⟨#[]⟩, ⟨#[]⟩, ta⟩ (Lib.hid h4.out.1))
    push_cast at k4
    go_wp2_with fail
    refine k4.out.mono ?_
    rintro e4 w4 ⟨v, nv4, rfl, hp4, hs4, hv4⟩
    have hfin : Hid (PqN B G tv ts en ov d w nv (Except.ok st >>= atomP ts en e) (.returned (.int .i64 v)) w4) := Lib.hid (by
      rw [hn.out]
      refine ⟨v, nv4, rfl, hp4, (hS1.out.trans ?_).trans hs4, hv4⟩
      have h5 := Stp.of (nv := nv) h4.out.2
      push_cast at h5
      exact h5)
    clear k4 hp4 hs4 hv4 c0 c1 c2 c3 cl h3 hf hgl
    go_wp2_with fail
    go_ret
    exact hfin.out
  by_cases h1 : tk = 1
  · obtain ⟨st, rfl, hi, hn⟩ := at1 (e := e) hp.out h1
    subst h1
    have hn := Lib.hid hn
    have h2 := Lib.hid (show PqW B G tv ts en ov d W1 nv st .nilIface from hp1.out)
    have h4 := Lib.hid (h2.out.setI (st.i + 1) hi)
    have hi := Lib.hid hi
    have c0 := hx1.out.c0; have c1 := hx1.out.c1; have c2 := hx1.out.c2; have c3 := hx1.out.c3; have cl := hx1.out.lt
    dsimp only at c0 c1 c2 c3
    have cg : ¬ G = g := fun e => hx1.out.gb e.symm
    have h3 := h2.out.i
    have hf := h2.out.fg
    have hgl : G < W1.heap.size := by have := h2.out.gB; have := h2.out.bl; omega
    have hr1 : (st.i : Int) ≤ 1000000 := by have := h2.out.il; have := h2.out.tl; omega
    have hr0 : (0 : Int) ≤ (st.i : Int) := by omega
    have k4 := Lib.hid (node_any B G tv ts en ov d _ nv (.ok ⟨st.i + 1, st.ns⟩) ⟨1, 0, 0, 0, tn, ⟨#[]⟩, ⟨#[]⟩, ⟨#[]⟩, ⟨#[]⟩, ta⟩ (Lib.hid h4.out.1))
    push_cast at k4
    go_wp2_with fail
    refine k4.out.mono ?_
    rintro e4 w4 ⟨v, nv4, rfl, hp4, hs4, hv4⟩
    have hfin : Hid (PqN B G tv ts en ov d w nv (Except.ok st >>= atomP ts en e) (.returned (.int .i64 v)) w4) := Lib.hid (by
      rw [hn.out]
      refine ⟨v, nv4, rfl, hp4, (hS1.out.trans ?_).trans hs4, hv4⟩
      have h5 := Stp.of (nv := nv) h4.out.2
      push_cast at h5
      exact h5)
    clear k4 hp4 hs4 hv4 c0 c1 c2 c3 cl h3 hf hgl
    go_wp2_with fail
    go_ret
    exact hfin.out
  have e0 : (tk == 0) = false := beq_eq_false_iff_ne.2 h0
  have e1 : (tk == 1) = false := beq_eq_false_iff_ne.2 h1
  have h0 := Lib.hid h0
  have h1 := Lib.hid h1
  have c0 := hx1.out.c0; have cl := hx1.out.lt
  dsimp only at c0
  have k2 := Lib.hid (skip_any B G tv ts en ov d _ nv R kwTrue hp1)
  obtain ⟨q1, hq1⟩ : ∃ q, isX ts R kwTrue = q := ⟨_, rfl⟩
  rw [hq1] at k2
  go_wp2_with fail
  refine k2.out.mono ?_
  rintro e2 w2 ⟨rfl, hr2, hb2⟩
  clear k2
  have hx2 := Lib.hid (hx1.out.step hb2)
  have hS2 := Lib.hid (show Stp G w nv w2 nv from hS1.out.trans (Stp.of hb2))
  clear hb2
  clear c0 cl
  have c0 := hx2.out.c0; have c3 := hx2.out.c3; have cl := hx2.out.lt
  dsimp only at c0 c3
  cases q1
  · rw [take_no hq1] at hr2
    have hp2 := Lib.hid hr2
    clear hr2 hS1 hx1 hp1
    have k3 := Lib.hid (skip_any B G tv ts en ov d _ nv R kwFalse hp2)
    obtain ⟨q2, hq2⟩ : ∃ q, isX ts R kwFalse = q := ⟨_, rfl⟩
    rw [hq2] at k3
    go_wp2_with fail
    refine k3.out.mono ?_
    rintro e3 w3 ⟨rfl, hr3, hb3⟩
    clear k3
    have hx3 := Lib.hid (hx2.out.step hb3)
    have hS3 := Lib.hid (show Stp G w nv w3 nv from hS2.out.trans (Stp.of hb3))
    clear hb3
    clear c0 c3 cl
    have c0 := hx3.out.c0; have c3 := hx3.out.c3; have cl := hx3.out.lt
    dsimp only at c0 c3
    cases q2
    · rw [take_no hq2] at hr3
      have hp3 := Lib.hid hr3
      clear hr3 hS2 hx2 hp2
      have k4 := Lib.hid (skip_any B G tv ts en ov d _ nv R sgOpen hp3)
      obtain ⟨q3, hq3⟩ : ∃ q, isX ts R sgOpen = q := ⟨_, rfl⟩
      rw [hq3] at k4
      go_wp2_with fail
      refine k4.out.mono ?_
      rintro e4 w4 ⟨rfl, hr4, hb4⟩
      clear k4
      have hx4 := Lib.hid (hx3.out.step hb4)
      have hS4 := Lib.hid (show Stp G w nv w4 nv from hS3.out.trans (Stp.of hb4))
      clear hb4
      clear c0 c3 cl
      have c0 := hx4.out.c0; have c3 := hx4.out.c3; have cl := hx4.out.lt
      dsimp only at c0 c3
      cases q3
      · rw [take_no hq3] at hr4
        have hp4 := Lib.hid hr4
        clear hr4 hS3 hx3 hp3
        have k5 := Lib.hid (skip_any B G tv ts en ov d _ nv R kwHandle hp4)
        obtain ⟨q4, hq4⟩ : ∃ q, isX ts R kwHandle = q := ⟨_, rfl⟩
        rw [hq4] at k5
        go_wp2_with fail
        refine k5.out.mono ?_
        rintro e5 w5 ⟨rfl, hr5, hb5⟩
        clear k5
        have hx5 := Lib.hid (hx4.out.step hb5)
        have hS5 := Lib.hid (show Stp G w nv w5 nv from hS4.out.trans (Stp.of hb5))
        clear hb5
        clear c0 c3 cl
        have c0 := hx5.out.c0; have c3 := hx5.out.c3; have cl := hx5.out.lt
        dsimp only at c0 c3
        cases q4
        · rw [take_no hq4] at hr5
          have hp5 := Lib.hid hr5
          clear hr5 hS4 hx4 hp4
          have ha := Lib.hid (at6 (e := e) hp.out h0.out h1.out hq1 hq2 hq3 hq4)
          have k5 := Lib.hid (pfail_any B G tv ts en ov d _ nv R 403 _ _ (wanted_in w5.heap.size) (Lib.hid (hp5.out.below (below_alc w5 (.cells #[.string ⟨#[97, 110, 32, 101, 120, 112, 114, 101, 115, 115, 105, 111, 110]⟩] 101)))))
          clear hq1 hq2 hq3 hq4
          go_wp2_with fail
          refine k5.out.mono ?_
          rintro e9 w9 ⟨rfl, hp9, hb9⟩
          have hfin : Hid (PqN B G tv ts en ov d w nv (R >>= atomP ts en e) (.returned (.int .i64 0)) w9) := Lib.hid ⟨0, nv, rfl, by rw [ha.out.1]; exact hp9, (hS5.out.next (below_alc w5 _)).trans (Stp.of hb9), fun x st' hc => absurd hc (ha.out.2 x st')⟩
          clear k5 hp9 hb9 ha
          go_wp2_with fail
          go_ret
          exact hfin.out
        · have hr5 := Lib.hid hr5
          have ha := Lib.hid (at5 (e := e) hp.out h0.out h1.out hq1 hq2 hq3 hq4)
          clear hq1 hq2 hq3 hq4
          have k9 := Lib.hid (phandle_any B G tv ts en ov d e kE ta _ nv (takeX ts R kwHandle) hr5)
          go_wp2_with fail
          refine k9.out.mono ?_
          rintro e9 w9 ⟨v, nv9, rfl, hp9, hs9, hv9⟩
          have hfin : Hid (PqN B G tv ts en ov d w nv (R >>= atomP ts en e) (.returned (.int .i64 v)) w9) := Lib.hid (by rw [ha.out]; exact ⟨v, nv9, rfl, hp9, hS5.out.trans hs9, hv9⟩)
          clear k9 hp9 hs9 hv9 ha c0 c3 cl
          go_wp2_with fail
          go_ret
          exact hfin.out
      · have hr4 := Lib.hid hr4
        have ha := Lib.hid (at4 (e := e) hp.out h0.out h1.out hq1 hq2 hq3)
        clear hq1 hq2 hq3
        have k9 := Lib.hid (kE.out _ nv _ hr4.out)
        go_wp2_with fail
        refine k9.out.mono ?_
        rintro e9 w9 ⟨v, nv9, rfl, hp9, hs9, hv9⟩
        have k10 := Lib.hid (take_any B G tv ts en ov d w9 nv9 _ sgShut (Lib.hid hp9))
        have hS9 := Lib.hid (hS4.out.trans hs9)
        have hv9 := Lib.hid hv9
        clear k9 hp9 hs9 c0 c3 cl
        go_wp2_with fail
        refine k10.out.mono ?_
        rintro e10 w10 ⟨rfl, hp10, hb10⟩
        have hfin : Hid (PqN B G tv ts en ov d w nv (R >>= atomP ts en e) (.returned (.int .i64 v)) w10) := Lib.hid (by rw [ha.out]; exact ⟨v, nv9, rfl, by rw [shut_st]; exact hp10, hS9.out.trans (Stp.of hb10), fun x st' hc => by obtain ⟨s, hs⟩ := shut_ok hc; exact hv9.out _ _ hs⟩)
        clear k10 hp10 hb10 ha hv9
        go_wp2_with fail
        go_ret
        exact hfin.out
    · have hr3 := Lib.hid hr3
      have ha := Lib.hid (at3 (e := e) hp.out h0.out h1.out hq1 hq2)
      clear hq1 hq2
      have k9 := Lib.hid (node_any B G tv ts en ov d _ nv (takeX ts R kwFalse) ⟨2, 0, 0, 0, 0, ⟨#[]⟩, ⟨#[]⟩, ⟨#[]⟩, ⟨#[]⟩, ta⟩ hr3)
      go_wp2_with fail
      refine k9.out.mono ?_
      rintro e9 w9 ⟨v, nv9, rfl, hp9, hs9, hv9⟩
      have hfin : Hid (PqN B G tv ts en ov d w nv (R >>= atomP ts en e) (.returned (.int .i64 v)) w9) := Lib.hid (by rw [ha.out]; exact ⟨v, nv9, rfl, hp9, hS3.out.trans hs9, hv9⟩)
      clear k9 hp9 hs9 hv9 ha c0 c3 cl
      go_wp2_with fail
      go_ret
      exact hfin.out
  · have hr2 := Lib.hid hr2
    have ha := Lib.hid (at2 (e := e) hp.out h0.out h1.out hq1)
    clear hq1
    have k9 := Lib.hid (node_any B G tv ts en ov d _ nv (takeX ts R kwTrue) ⟨2, 0, 0, 0, 1, ⟨#[]⟩, ⟨#[]⟩, ⟨#[]⟩, ⟨#[]⟩, ta⟩ hr2)
    go_wp2_with fail
    refine k9.out.mono ?_
    rintro e9 w9 ⟨v, nv9, rfl, hp9, hs9, hv9⟩
    have hfin : Hid (PqN B G tv ts en ov d w nv (R >>= atomP ts en e) (.returned (.int .i64 v)) w9) := Lib.hid (by rw [ha.out]; exact ⟨v, nv9, rfl, hp9, hS2.out.trans hs9, hv9⟩)
    clear k9 hp9 hs9 hv9 ha c0 c3 cl
    go_wp2_with fail
    go_ret
    exact hfin.out
end Go.Proofs.YtidlljookjicpaaGreatDoor

/- The program's parser: what an application begins with. -/
namespace Go.Proofs.YtidlljookjicpaaGreatDoor
open Go.RowKit
set_option linter.unusedVariables false
set_option linter.unusedSimpArgs false

/-- behind 'do'. -/
def doP (ts : List Tk) (en : Int) (e : PS → Except PE (Nat × PS)) (beg : Int) (st : PS) : Except PE (Nat × PS) := do
  let (x, st) ← nameP ts en st
  let (a, st) ← e st
  putP ts en ⟨9, (a : Nat), 0, 0, 0, x, ba0, ba0, ba0, beg⟩ st
theorem pdo_eq {ts : List Tk} {en : Int} {e : PS → Except PE (Nat × PS)} {beg : Int} {R : Except PE PS} {x1 : ByteArray} {a2 : Int} (hv1 : ∀ y st', (R >>= nameP ts en) = .ok (y, st') → x1 = y) (hv2 : ∀ n st', ((stX (R >>= nameP ts en)) >>= e) = .ok (n, st') → a2 = (n : Nat)) :
    ((stX ((stX (R >>= nameP ts en)) >>= e)) >>= putP ts en ⟨9, a2, 0, 0, 0, x1, ⟨#[]⟩, ⟨#[]⟩, ⟨#[]⟩, beg⟩) = (R >>= doP ts en e beg) := by
  rcases R with _ | st
  · rfl
  simp only [bind, Except.bind, stX] at hv1 hv2 ⊢
  simp only [doP, bind, Except.bind]
  rcases h1 : nameP ts en st with _ | ⟨y1, s1⟩
  · simp only [h1]
  simp only [h1]
  try simp only [h1] at hv1
  try simp only [h1] at hv2
  obtain rfl := hv1 _ _ rfl
  rcases h2 : e s1 with _ | ⟨y2, s2⟩
  · simp only [h2]
  simp only [h2]
  try simp only [h2] at hv2
  obtain rfl := hv2 _ _ rfl
  first | rfl | done
theorem first_no {ts : List Tk} {en : Int} {e : PS → Except PE (Nat × PS)} {R : Except PE PS} (h : isX ts R kwDo = false) : (R >>= firstP ts en e) = (R >>= atomP ts en e) := by
  cases R with
  | error e => rfl
  | ok st =>
    have h : isP ts st.i kwDo = false := h
    show firstP ts en e st = atomP ts en e st
    unfold firstP
    rw [if_neg (by rw [h]; decide)]
theorem first_yes {ts : List Tk} {en : Int} {e : PS → Except PE (Nat × PS)} {R : Except PE PS} (h : isX ts R kwDo = true) : (R >>= firstP ts en e) = (takeX ts R kwDo >>= doP ts en (atomP ts en e) (peekX ts en R).at_) := by
  obtain ⟨st, rfl, hi, hx⟩ := isX_ok h
  have h : isP ts st.i kwDo = true := h
  rw [hx, peek_here]
  show firstP ts en e st = _
  unfold firstP
  rw [if_pos h]
  rfl
theorem atom_ex {B G : Nat} {tv : Value} {ts : List Tk} {en : Int} {ov : Value} {d : Int} {e : PS → Except PE (Nat × PS)} (kE : Hid (ExC B G tv ts en ov 54 d e)) : ExC B G tv ts en ov 135 d (atomP ts en e) := fun w nv R h => atom_any B G tv ts en ov d e kE w nv R (Lib.hid h)
set_option maxRecDepth 100000 in
set_option maxHeartbeats 4000000 in
theorem pfirst_any (B G : Nat) (tv : Value) (ts : List Tk) (en : Int) (ov : Value) (d : Int) (e : PS → Except PE (Nat × PS)) (kE : Hid (ExC B G tv ts en ov 54 d e)) (beg : Int) (w : World) (nv : Value) (R : Except PE PS) (hbeg : (peekX ts en R).at_ = beg) (h : Hid (PqX B G tv ts en ov d w nv R)) :
    Calls Tryz.prog 133 #[.pointer (some ⟨G, 0, none⟩), .int .i64 beg] w (PqN B G tv ts en ov d w nv (R >>= firstP ts en e)) := by
  have kA := Lib.hid (atom_ex kE)
  have k := Lib.hid (skip_any B G tv ts en ov d w nv R kwDo h)
  obtain ⟨q, hq⟩ : ∃ q, isX ts R kwDo = q := ⟨_, rfl⟩
  rw [hq] at k
  have hbeg := Lib.hid hbeg
  go_enter Tryz.func133, Tryz.ntmps133
  go_wp2_with fail
  refine k.out.mono ?_
  rintro e0 v0 ⟨rfl, hr, hb⟩
  clear k
  have hr := Lib.hid hr
  have hT := Lib.hid (show Stp G w nv v0 nv from Stp.of hb)
  clear hb
  cases q
  · have hf := Lib.hid (first_no (en := en) (e := e) hq)
    rw [take_no hq] at hr
    clear hq
    go_wp2_with fail
    refine (kA.out _ nv _ hr.out).mono ?_
    rintro e4 w4 ⟨v, nv4, rfl, hp4, hs4, hv4⟩
    have hfin : Hid (PqN B G tv ts en ov d w nv (R >>= firstP ts en e) (.returned (.int .i64 v)) w4) := Lib.hid (by rw [hf.out]; exact ⟨v, nv4, rfl, hp4, hT.out.trans hs4, hv4⟩)
    clear hp4 hs4 hv4 hf
    go_wp2_with fail
    go_ret
    exact hfin.out
  · have hf := Lib.hid (first_yes (en := en) (e := e) hq)
    clear hq
    generalize takeX ts R kwDo = R' at hr hf
    have hx0 := Lib.hid (NdBox.new hr.out ⟨9, 0, 0, 0, 0, ⟨#[]⟩, ⟨#[]⟩, ⟨#[]⟩, ⟨#[]⟩, beg⟩)
    have hp0 := Lib.hid (hr.out.below (below_alc v0 (.cells #[.int .i64 9, .int .i64 0, .int .i64 0, .int .i64 0, .int .i64 0, .string ⟨#[]⟩, .string ⟨#[]⟩, .string ⟨#[]⟩, .string ⟨#[]⟩, .int .i64 beg] 50)))
    have hS0 := Lib.hid (show Stp G w nv (v0.alloc (.cells #[.int .i64 9, .int .i64 0, .int .i64 0, .int .i64 0, .int .i64 0, .string ⟨#[]⟩, .string ⟨#[]⟩, .string ⟨#[]⟩, .string ⟨#[]⟩, .int .i64 beg] 50)) nv from hT.out.next (below_alc v0 (.cells #[.int .i64 9, .int .i64 0, .int .i64 0, .int .i64 0, .int .i64 0, .string ⟨#[]⟩, .string ⟨#[]⟩, .string ⟨#[]⟩, .string ⟨#[]⟩, .int .i64 beg] 50)))
    have hBw := Lib.hid hr.out.lt.2.1
    go_wp2_with fail
    refine (pname_any B G tv ts en ov d _ nv _ hp0).mono ?_
    rintro e1 w1 ⟨x1, rfl, ⟨hq1, hb1⟩, hv1⟩
    have hs1 := Lib.hid (show Stp G _ nv w1 nv from Stp.of hb1)
    clear hb1
    have hv1 := Lib.hid hv1
    have hy1 := Lib.hid (hx0.out.step hs1.out)
    have hx1 := Lib.hid (hy1.out.set5 x1)
    have hp1 := Lib.hid (hq1.box hy1.out hBw.out 5 (.string x1))
    have hS1 := Lib.hid ((hS0.out.trans hs1.out).store hT.out.1.size 5 (.string x1))
    have cs := hy1.out.c5; have cf := hy1.out.fz; have cl := hy1.out.lt
    clear hx0 hS0 hp0 hs1 hq1
    clear hy1
    go_wp2_with fail
    clear cs cf cl
    refine (kA.out _ nv _ hp1.out).mono ?_
    rintro e2 w2 ⟨a2, nv2, rfl, hq2, hs2, hv2⟩
    have hs2 := Lib.hid hs2
    have hv2 := Lib.hid hv2
    have hy2 := Lib.hid (hx1.out.step hs2.out)
    have hx2 := Lib.hid (hy2.out.set1 a2)
    have hp2 := Lib.hid (hq2.box hy2.out hBw.out 1 (.int .i64 a2))
    have hS2 := Lib.hid ((hS1.out.trans hs2.out).store hT.out.1.size 1 (.int .i64 a2))
    clear hx1 hS1 hp1 hs2 hq2
    have c0 := hy2.out.c0
    have c1 := hy2.out.c1
    have c2 := hy2.out.c2
    have c3 := hy2.out.c3
    have c4 := hy2.out.c4
    have c5 := hy2.out.c5
    have c6 := hy2.out.c6
    have c7 := hy2.out.c7
    have c8 := hy2.out.c8
    have c9 := hy2.out.c9
    have cf := hy2.out.fz; have cl := hy2.out.lt
    dsimp only at c0 c1 c2 c3 c4 c5 c6 c7 c8 c9
    have k4 := Lib.hid (node_any B G tv ts en ov d _ nv2 _ ⟨9, a2, 0, 0, 0, x1, ⟨#[]⟩, ⟨#[]⟩, ⟨#[]⟩, beg⟩ hp2)
    have he := Lib.hid (pdo_eq (ts := ts) (en := en) (e := atomP ts en e) (beg := beg) (R := R') hv1.out hv2.out)
    go_wp2_with fail
    refine k4.out.mono ?_
    rintro e4 w4 ⟨v, nv4, rfl, hp4, hs4, hv4⟩
    have hfin : Hid (PqN B G tv ts en ov d w nv (R >>= firstP ts en e) (.returned (.int .i64 v)) w4) := Lib.hid (by rw [hf.out, hbeg.out, ← he.out]; exact ⟨v, nv4, rfl, hp4, hS2.out.trans hs4, hv4⟩)
    clear k4 hp4 hs4 hv4 he hf c0 c1 c2 c3 c4 c5 c6 c7 c8 c9 cf cl
    go_wp2_with fail
    go_ret
    exact hfin.out
end Go.Proofs.YtidlljookjicpaaGreatDoor

/- The program's parser: a prim. -/
/- The program's parser: a prim. -/
namespace Go.Proofs.YtidlljookjicpaaGreatDoor
open Go.RowKit
set_option linter.unusedVariables false
set_option linter.unusedSimpArgs false

/-- a prim whose left operand may be any number. -/
def primV (ts : List Tk) (en : Int) (num at_ l : Int) (o : PS → Except PE (Nat × PS)) (st : PS) : Except PE (Nat × PS) := do
  let (b, st) ← o st
  putP ts en ⟨8, l, (b : Nat), 0, num, ba0, ba0, ba0, ba0, at_⟩ st
theorem prim_eq {ts : List Tk} {en : Int} {o : PS → Except PE (Nat × PS)} {num at_ l a : Int} {R : Except PE PS} (hv : ∀ n st', (R >>= o) = .ok (n, st') → a = (n : Nat)) : (stX (R >>= o) >>= putP ts en ⟨8, l, a, 0, num, ⟨#[]⟩, ⟨#[]⟩, ⟨#[]⟩, ⟨#[]⟩, at_⟩) = (R >>= primV ts en num at_ l o) := by
  rcases R with _ | st
  · rfl
  simp only [bind, Except.bind, stX] at hv ⊢
  simp only [primV, bind, Except.bind]
  rcases h1 : o st with _ | ⟨y, s⟩
  · simp only []
  simp only []
  rw [h1] at hv
  obtain rfl := hv _ _ rfl
  rfl
set_option maxRecDepth 100000 in
set_option maxHeartbeats 2000000 in
theorem pprim_any (B G : Nat) (tv : Value) (ts : List Tk) (en : Int) (ov : Value) (d : Int) (F : Nat) (o : PS → Except PE (Nat × PS)) (kO : Hid (ExC B G tv ts en ov F d o)) (hF : Hid (∀ (xs : Array Value) (W : World), (callFunc F xs).run Tryz.prog W = .ok (.enter F xs) W)) (num at_ l : Int) (w : World) (nv : Value) (R : Except PE PS) (h : Hid (PqX B G tv ts en ov d w nv R)) :
    Calls Tryz.prog 118 #[.pointer (some ⟨G, 0, none⟩), .int .i64 num, .int .i64 at_, .int .i64 l, .func (.func F) #[.pointer (some ⟨G, 0, none⟩)] #[]] w (PqN B G tv ts en ov d w nv (R >>= primV ts en num at_ l o)) := by
  have kf := hF.out
  go_enter Tryz.func118, Tryz.ntmps118
  go_wp2_with fail
  refine (kO.out _ nv _ h.out).mono ?_
  rintro e1 w1 ⟨a, nv1, rfl, hp1, hs1, hv1⟩
  have he := Lib.hid (prim_eq (ts := ts) (en := en) (num := num) (at_ := at_) (l := l) hv1)
  have k4 := Lib.hid (node_any B G tv ts en ov d _ nv1 _ ⟨8, l, a, 0, num, ⟨#[]⟩, ⟨#[]⟩, ⟨#[]⟩, ⟨#[]⟩, at_⟩ (Lib.hid hp1))
  have hS := Lib.hid hs1
  clear hp1 hs1 hv1
  go_wp2_with fail
  refine k4.out.mono ?_
  rintro e4 w4 ⟨v, nv4, rfl, hp4, hs4, hv4⟩
  have hfin : Hid (PqN B G tv ts en ov d w nv (R >>= primV ts en num at_ l o) (.returned (.int .i64 v)) w4) := Lib.hid (by rw [← he.out]; exact ⟨v, nv4, rfl, hp4, hS.out.trans hs4, hv4⟩)
  clear k4 hp4 hs4 hv4 he
  go_wp2_with fail
  go_ret
  exact hfin.out
end Go.Proofs.YtidlljookjicpaaGreatDoor

/- The program's parser: an expression, over what it opens with. -/
namespace Go.Proofs.YtidlljookjicpaaGreatDoor
open Go.RowKit
set_option linter.unusedVariables false
set_option linter.unusedSimpArgs false

theorem err_neq' (t : TypeId) (u : Value) (W : World) : (binOp .neq 61 (.iface t u) .nilIface).run Tryz.prog W = .ok (.bool true) W := by kernel_rfl
theorem nil_neq' (W : World) : (binOp .neq 61 .nilIface .nilIface).run Tryz.prog W = .ok (.bool false) W := by kernel_rfl
theorem PqW.setD {B G : Nat} {tv : Value} {ts : List Tk} {en : Int} {ov : Value} {d : Int} {w : World} {nv : Value} {st : PS} {ev : Value} (h : PqW B G tv ts en ov d w nv st ev) (d' : Int) : PqW B G tv ts en ov d' (w.setCell ⟨G, 3, none⟩ (.int .i64 d')) nv st ev ∧ Bar (fun k => k = G) w (w.setCell ⟨G, 3, none⟩ (.int .i64 d')) := by
  have ne : ∀ a b : Nat, a ≠ b → (⟨G, a, none⟩ : Addr) ≠ ⟨G, b, none⟩ := fun a b hab e => by injection e with _ e2 _; exact hab e2
  have hb : Bar (fun k => k = G) w (w.setCell ⟨G, 3, none⟩ (.int .i64 d')) := Bar.set (S := fun k => k = G) ⟨G, 3, none⟩ _ rfl
  exact ⟨⟨setO h.t (ne _ _ (by decide)), setO h.e (ne _ _ (by decide)), setO h.i (ne _ _ (by decide)), setS h.d, setO h.o (ne _ _ (by decide)), setO h.n (ne _ _ (by decide)), setO h.r (ne _ _ (by decide)), h.gB, by simpa using h.bl, fun o => by simp only [World.frozen?_setCell]; exact h.fg o, h.tk.bar hb (fun k _ hk => hk), Bar.own hb h.own (fun k hk e => by have := (own_lt h.own k hk).1; have := h.gB; omega), h.il, h.nl, h.tl, fun k hk => by have := h.ol k hk; simpa using this⟩, hb⟩
theorem PqX.setD {B G : Nat} {tv : Value} {ts : List Tk} {en : Int} {ov : Value} {d : Int} {w : World} {nv : Value} {R : Except PE PS} (h : PqX B G tv ts en ov d w nv R) (d' : Int) : PqX B G tv ts en ov d' (w.setCell ⟨G, 3, none⟩ (.int .i64 d')) nv R ∧ Bar (fun k => k = G) w (w.setCell ⟨G, 3, none⟩ (.int .i64 d')) := by
  cases R with
  | ok st => exact PqW.setD h d'
  | error e =>
    obtain ⟨st, ev, h1, h2⟩ := h
    obtain ⟨h3, h4⟩ := h1.setD d'
    exact ⟨⟨st, ev, h3, h2.bar h4 (fun k hk _ _ => hk) (fun g hg => .inl hg)⟩, h4⟩
theorem PqX.cellD {B G : Nat} {tv : Value} {ts : List Tk} {en : Int} {ov : Value} {d : Int} {w : World} {nv : Value} {R : Except PE PS} (h : PqX B G tv ts en ov d w nv R) : w.cell? ⟨G, 3, none⟩ = some (.int .i64 d) ∧ (∀ o, w.frozen? ⟨G, o, none⟩ = false) ∧ G < w.heap.size := by
  obtain ⟨st, ev, h1, _⟩ := h.sl
  exact ⟨h1.d, h1.fg, by have := h1.gB; have := h1.bl; omega⟩
set_option maxRecDepth 100000 in
set_option maxHeartbeats 2000000 in
/-- behind an error no expression is read. -/
theorem expr_err (B G : Nat) (tv : Value) (ts : List Tk) (en : Int) (ov : Value) (d : Int) (w : World) (nv : Value) (e : PE) (h : Hid (PqX B G tv ts en ov d w nv (.error e))) (hd : d ≠ 40) :
    Calls Tryz.prog 54 #[.pointer (some ⟨G, 0, none⟩)] w (PqN B G tv ts en ov d w nv (.error e)) := by
  obtain ⟨st, ev, h1, F, v, rfl, _⟩ := h.out
  have hr := h1.r
  have hc := h1.d
  have hgl : G < w.heap.size := by have := h1.gB; have := h1.bl; omega
  have hn0 := fun (u : Value) (W : World) => err_neq' 73 u W
  have e0 : (d == 40) = false := beq_eq_false_iff_ne.2 hd
  clear h1 hd
  go_enter Tryz.func54, Tryz.ntmps54
  go_wp2_with fail
  go_ret
  exact ⟨_, nv, rfl, h.out, Stp.refl _ _ _, fun x st' hc => by cases hc⟩
set_option maxRecDepth 100000 in
set_option maxHeartbeats 2000000 in
theorem expr_ok (B G : Nat) (tv : Value) (ts : List Tk) (en : Int) (ov : Value) (d : Int) (f : PS → Except PE (Nat × PS)) (kO : Hid (ExC B G tv ts en ov 85 (d + 1) f)) (hd0 : 0 ≤ d) (hd : d < 40) (w : World) (nv : Value) (st : PS) (h : Hid (PqX B G tv ts en ov d w nv (.ok st))) :
    Calls Tryz.prog 54 #[.pointer (some ⟨G, 0, none⟩)] w (PqN B G tv ts en ov d w nv (f st)) := by
  have h1 : PqW B G tv ts en ov d w nv st .nilIface := h.out
  have hr := h1.r
  have hc := h1.d
  have hf := h1.fg
  have hgl : G < w.heap.size := by have := h1.gB; have := h1.bl; omega
  have hn1 := nil_neq'
  have e0 : (d == 40) = false := beq_eq_false_iff_ne.2 (by omega)
  have h2 := Lib.hid (h.out.setD (d + 1))
  have kO' := Lib.hid (kO.out _ nv _ h2.out.1)
  clear h1
  go_enter Tryz.func54, Tryz.ntmps54
  go_wp2_with fail
  refine kO'.out.mono ?_
  rintro e1 w1 ⟨v, nv1, rfl, hp1, hs1, hv1⟩
  obtain ⟨c3, cf, cl⟩ := hp1.cellD
  have h3 := Lib.hid (hp1.setD d)
  have hs1 := Lib.hid hs1
  have hv1 := Lib.hid hv1
  clear hp1 hr hc hf hgl kO'
  have ed : d + 1 - 1 = d := by omega
  go_wp2_with fail
  go_ret
  first
    | exact ⟨v, nv1, rfl, h3.out.1, ((Stp.of h2.out.2).trans hs1.out).trans (Stp.of h3.out.2), hv1.out⟩
    | (rw [ed]; exact ⟨v, nv1, rfl, h3.out.1, ((Stp.of h2.out.2).trans hs1.out).trans (Stp.of h3.out.2), hv1.out⟩)
set_option maxRecDepth 100000 in
set_option maxHeartbeats 2000000 in
/-- forty lie within one another: no more. -/
theorem expr_deep (B G : Nat) (tv : Value) (ts : List Tk) (en : Int) (ov : Value) : ExC B G tv ts en ov 54 40 (exprP ts en 0) := by
  intro w nv R h
  have h := Lib.hid h
  have k := Lib.hid (pfail_any B G tv ts en ov 40 w nv R 401 27 (.int .i64 401) (.inr ⟨by decide, rfl⟩) h)
  have hfx : Hid (∃ e, failX ts en R 401 = .error e ∧ (R >>= exprP ts en 0) = .error e) := Lib.hid (by
    cases R with
    | error e => exact ⟨e, rfl, rfl⟩
    | ok st => exact ⟨_, rfl, rfl⟩)
  obtain ⟨e, he1, he2⟩ := hfx.out
  rw [he1] at k
  rw [he2]
  have hc := h.out.cellD.1
  have hgl := h.out.cellD.2.2
  clear he1 he2 hfx
  go_enter Tryz.func54, Tryz.ntmps54
  go_wp2_with fail
  refine k.out.mono ?_
  rintro e1 w1 ⟨rfl, hp1, hb1⟩
  obtain ⟨st, ev, h1, F, v, rfl, _⟩ := id hp1
  have hr := h1.r
  have hn0 := fun (u : Value) (W : World) => err_neq' 73 u W
  have hgl : G < w1.heap.size := by have := h1.gB; have := h1.bl; omega
  have hp1 := Lib.hid hp1
  have hb1 := Lib.hid hb1
  clear h1 hc k
  go_wp2_with fail
  go_ret
  exact ⟨_, nv, rfl, hp1.out, Stp.of hb1.out, fun x st' hc => by cases hc⟩
theorem expr_ex {B G : Nat} {tv : Value} {ts : List Tk} {en : Int} {ov : Value} {d : Int} {r : Nat} (kO : Hid (ExC B G tv ts en ov 85 (d + 1) (openP ts en (exprP ts en r)))) (hd0 : 0 ≤ d) (hd : d < 40) : ExC B G tv ts en ov 54 d (exprP ts en (r + 1)) := by
  intro w nv R h
  cases R with
  | error e => exact expr_err B G tv ts en ov d w nv e (Lib.hid h) (by omega)
  | ok st => exact expr_ok B G tv ts en ov d _ kO hd0 hd w nv st (Lib.hid h)
end Go.Proofs.YtidlljookjicpaaGreatDoor

/- The program's parser: int or bool. -/
namespace Go.Proofs.YtidlljookjicpaaGreatDoor
open Go.RowKit
set_option linter.unusedVariables false
set_option linter.unusedSimpArgs false

theorem base1 {ts : List Tk} {en : Int} {R : Except PE PS} (h : isX ts R kwInt = true) : ∃ s, takeX ts R kwInt = .ok s ∧ (R >>= baseP ts en) = .ok (0, s) := by
  obtain ⟨st, rfl, hi, hx⟩ := isX_ok h
  have h : isP ts st.i kwInt = true := h
  exact ⟨_, hx, by show baseP ts en st = _; unfold baseP; rw [if_pos h]⟩
theorem base2 {ts : List Tk} {en : Int} {R : Except PE PS} (h1 : isX ts R kwInt = false) (h : isX ts R kwBool = true) : ∃ s, takeX ts R kwBool = .ok s ∧ (R >>= baseP ts en) = .ok (1, s) := by
  obtain ⟨st, rfl, hi, hx⟩ := isX_ok h
  have h : isP ts st.i kwBool = true := h
  have h1 : isP ts st.i kwInt = false := h1
  exact ⟨_, hx, by show baseP ts en st = _; unfold baseP; rw [if_neg (by rw [h1]; decide), if_pos h]⟩
theorem base3 {ts : List Tk} {en : Int} {R : Except PE PS} (h1 : isX ts R kwInt = false) (h : isX ts R kwBool = false) : stX (R >>= baseP ts en) = failX ts en R 403 ∧ ∀ y st', (R >>= baseP ts en) ≠ .ok (y, st') := by
  cases R with
  | error e => exact ⟨rfl, fun y st' hc => by cases hc⟩
  | ok st =>
    have h : isP ts st.i kwBool = false := h
    have h1 : isP ts st.i kwInt = false := h1
    have k : (Except.ok st >>= baseP ts en) = .error (403, hereP ts en st.i) := by
      show baseP ts en st = _
      unfold baseP
      rw [if_neg (by rw [h1]; decide), if_neg (by rw [h]; decide)]
    rw [k]
    exact ⟨rfl, fun y st' hc => by cases hc⟩
def PqI (B G : Nat) (tv : Value) (ts : List Tk) (en : Int) (ov : Value) (d : Int) (w : World) (nv : Value) (R : Except PE (Int × PS)) (e : Ending) (w' : World) : Prop := ∃ x, e = .returned (.int .i64 x) ∧ PqP B G tv ts en ov d w nv (stX R) w' ∧ ∀ y st', R = .ok (y, st') → x = y
set_option maxRecDepth 100000 in
set_option maxHeartbeats 2000000 in
theorem base_any (B G : Nat) (tv : Value) (ts : List Tk) (en : Int) (ov : Value) (d : Int) (w : World) (nv : Value) (R : Except PE PS) (h : Hid (PqX B G tv ts en ov d w nv R)) :
    Calls Tryz.prog 84 #[.pointer (some ⟨G, 0, none⟩)] w (PqI B G tv ts en ov d w nv (R >>= baseP ts en)) := by
  have k := Lib.hid (skip_any B G tv ts en ov d w nv R kwInt h)
  obtain ⟨q, hq⟩ : ∃ q, isX ts R kwInt = q := ⟨_, rfl⟩
  rw [hq] at k
  go_enter Tryz.func84, Tryz.ntmps84
  go_wp2_with fail
  refine k.out.mono ?_
  rintro e1 w1 ⟨rfl, hr1, hb1⟩
  have hb1 := Lib.hid hb1
  clear k
  cases q
  · rw [take_no hq] at hr1
    have hr1 := Lib.hid hr1
    have k := Lib.hid (skip_any B G tv ts en ov d w1 nv R kwBool hr1)
    obtain ⟨q2, hq2⟩ : ∃ q, isX ts R kwBool = q := ⟨_, rfl⟩
    rw [hq2] at k
    go_wp2_with fail
    refine k.out.mono ?_
    rintro e2 w2 ⟨rfl, hr2, hb2⟩
    have hb2 := Lib.hid (hb1.out.trans hb2 fun _ _ hs => hs)
    clear k
    cases q2
    · have ha := Lib.hid (base3 (en := en) hq hq2)
      rw [take_no hq2] at hr2
      have hr2 := Lib.hid hr2
      have k5 := Lib.hid (pfail_any B G tv ts en ov d _ nv R 403 _ _ (wanted_in w2.heap.size) (Lib.hid (hr2.out.below (below_alc w2 (.cells #[.string ⟨#[105, 110, 116, 32, 111, 114, 32, 98, 111, 111, 108]⟩] 101)))))
      clear hq hq2
      go_wp2_with fail
      refine k5.out.mono ?_
      rintro e9 w9 ⟨rfl, hp9, hb9⟩
      have hfin : Hid (PqI B G tv ts en ov d w nv (R >>= baseP ts en) (.returned (.int .i64 0)) w9) := Lib.hid ⟨0, rfl, ⟨by rw [ha.out.1]; exact hp9, (hb2.out.next (below_alc w2 _)).trans hb9 fun _ _ hs => hs⟩, fun x st' hc => absurd hc (ha.out.2 x st')⟩
      clear k5 hp9 hb9 ha
      go_wp2_with fail
      go_ret
      exact hfin.out
    · obtain ⟨s, hs1, hs2⟩ := base2 (en := en) hq hq2
      rw [hs1] at hr2
      have hs2 := Lib.hid hs2
      have hr2 := Lib.hid hr2
      clear hs1 hq hq2
      go_wp2_with fail
      go_ret
      exact ⟨1, rfl, ⟨by rw [hs2.out]; exact hr2.out, hb2.out⟩, fun y st' hc => by rw [hs2.out] at hc; injection hc with hc; injection hc⟩
  · obtain ⟨s, hs1, hs2⟩ := base1 (en := en) hq
    rw [hs1] at hr1
    have hs2 := Lib.hid hs2
    have hr1 := Lib.hid hr1
    clear hs1 hq
    go_wp2_with fail
    go_ret
    exact ⟨0, rfl, ⟨by rw [hs2.out]; exact hr1.out, hb1.out⟩, fun y st' hc => by rw [hs2.out] at hc; injection hc with hc; injection hc⟩
end Go.Proofs.YtidlljookjicpaaGreatDoor

/- The program's parser: loops over operands, plain. -/
namespace Go.Proofs.YtidlljookjicpaaGreatDoor
open Go.RowKit
set_option linter.unusedVariables false
set_option linter.unusedSimpArgs false

/-- what a loop over operands keeps: its left operand's number, and what is still to come (L, with so many rounds at most). -/
structure LpI (B G : Nat) (tv : Value) (ts : List Tk) (en : Int) (ov : Value) (d : Int) (w : World) (nv : Value) (T : Except PE (Nat × PS)) (L : Nat → Nat → PS → Except PE (Nat × PS)) (k : Nat) (z : Int) (wr : World) (nvr : Value) (Rr : Except PE (Nat × PS)) : Prop where
  x : PqX B G tv ts en ov d wr nvr (stX Rr)
  s : Stp G w nv wr nvr
  v : ∀ n st, Rr = .ok (n, st) → z = (n : Nat) ∧ st.i ≤ ts.length ∧ ts.length < k + st.i
  e : (Rr >>= fun p => L k p.1 p.2) = T
section
variable {B G : Nat} {tv : Value} {ts : List Tk} {en : Int} {ov : Value} {d : Int} {w : World} {nv : Value} {T : Except PE (Nat × PS)} {k : Nat} {z : Int} {wr : World} {nvr : Value} {Rr : Except PE (Nat × PS)} {e o : PS → Except PE (Nat × PS)} {beg : Int}
theorem starts_err {x : PE} : startsX ts (.error x) = false := rfl
theorem LpI.app_end (h : LpI B G tv ts en ov d w nv T (appLoop ts en e beg) k z wr nvr Rr) (hs : startsX ts (stX Rr) = false) : Rr = T := by
  rw [← h.e]
  rcases Rr with _ | ⟨n, st⟩
  · rfl
  have h1 := (h.v n st rfl).2
  have hs : startsP ts st.i = false := hs
  obtain ⟨k, rfl⟩ : ∃ j, k = j + 1 := ⟨k - 1, by omega⟩
  show _ = appLoop ts en e beg (k + 1) n st
  unfold appLoop
  rw [if_neg (by rw [hs]; decide)]
theorem LpI.app_ok (h : LpI B G tv ts en ov d w nv T (appLoop ts en e beg) k z wr nvr Rr) (hs : startsX ts (stX Rr) = true) : ∃ n st, Rr = .ok (n, st) ∧ 0 < k := by
  rcases Rr with _ | ⟨n, st⟩
  · cases hs
  exact ⟨n, st, rfl, by have := (h.v n st rfl).2; omega⟩
theorem LpI.app_next (he : Mono ts e) (h : LpI B G tv ts en ov d w nv T (appLoop ts en e beg) k z wr nvr Rr) (hs : startsX ts (stX Rr) = true) {b z' : Int} {w2 : World} {nv2 : Value} (hb : ∀ n st, (stX Rr >>= atomP ts en e) = .ok (n, st) → b = (n : Nat)) (hS : Stp G w nv w2 nv2)
    (hx : PqX B G tv ts en ov d w2 nv2 (stX (stX (stX Rr >>= atomP ts en e) >>= putP ts en ⟨4, z, b, 0, 0, ⟨#[]⟩, ⟨#[]⟩, ⟨#[]⟩, ⟨#[]⟩, beg⟩)))
    (hz : ∀ n st, (stX (stX Rr >>= atomP ts en e) >>= putP ts en ⟨4, z, b, 0, 0, ⟨#[]⟩, ⟨#[]⟩, ⟨#[]⟩, ⟨#[]⟩, beg⟩) = .ok (n, st) → z' = (n : Nat)) :
    LpI B G tv ts en ov d w nv T (appLoop ts en e beg) (k - 1) z' w2 nv2 (stX (stX Rr >>= atomP ts en e) >>= putP ts en ⟨4, z, b, 0, 0, ⟨#[]⟩, ⟨#[]⟩, ⟨#[]⟩, ⟨#[]⟩, beg⟩) := by
  obtain ⟨n, st, rfl, hk⟩ := h.app_ok hs
  obtain ⟨k, rfl⟩ : ∃ j, k = j + 1 := ⟨k - 1, by omega⟩
  have hs : startsP ts st.i = true := hs
  obtain ⟨h1, h2, h3⟩ := h.v n st rfl
  subst h1
  refine ⟨hx, hS, ?_, ?_⟩
  · intro n' st' hr
    refine ⟨hz _ _ hr, ?_⟩
    obtain ⟨s1, h4, h5⟩ := ex_ok.1 hr
    have h4 : stX (atomP ts en e st) = .ok s1 := h4
    rcases ha : atomP ts en e st with _ | ⟨m, s2⟩
    · rw [ha] at h4; cases h4
    rw [ha] at h4
    injection h4 with h4
    subst h4
    obtain ⟨rfl, _, _⟩ := putP_ok h5
    have hf := atomP_fwd he _ _ _ ha
    have := hf.lt; have := hf.le
    exact ⟨hf.le, by dsimp only; omega⟩
  · rw [← h.e]
    show _ = appLoop ts en e beg (k + 1) n st
    rw [appLoop, if_pos hs]
    have hb : ∀ n' st', atomP ts en e st = .ok (n', st') → b = (n' : Nat) := hb
    show ((stX (atomP ts en e st) >>= putP ts en _) >>= _) = _
    rcases ha : atomP ts en e st with _ | ⟨m, s2⟩
    · rfl
    obtain rfl := hb _ _ ha
    rfl
theorem LpI.rk_end {u v : List UInt8} {nu nw : Int} (h : LpI B G tv ts en ov d w nv T (rankLoop ts en u v nu nw o) k z wr nvr Rr) (hu : isX ts (stX Rr) u = false) (hv : isX ts (stX Rr) v = false) : Rr = T := by
  rw [← h.e]
  rcases Rr with _ | ⟨n, st⟩
  · rfl
  have h1 := (h.v n st rfl).2
  have hu : isP ts st.i u = false := hu
  have hv : isP ts st.i v = false := hv
  obtain ⟨k, rfl⟩ : ∃ j, k = j + 1 := ⟨k - 1, by omega⟩
  show _ = rankLoop ts en u v nu nw o (k + 1) n st
  unfold rankLoop
  rw [if_neg (by rw [hu]; decide), if_neg (by rw [hv]; decide)]
theorem LpI.rk_ok {u : List UInt8} {L : Nat → Nat → PS → Except PE (Nat × PS)} (h : LpI B G tv ts en ov d w nv T L k z wr nvr Rr) (hu : isX ts (stX Rr) u = true) : ∃ n st, Rr = .ok (n, st) ∧ 0 < k := by
  rcases Rr with _ | ⟨n, st⟩
  · cases hu
  exact ⟨n, st, rfl, by have := (h.v n st rfl).2; omega⟩
theorem LpI.rk_u {u v : List UInt8} {nu nw : Int} (ho : Mono ts o) (h : LpI B G tv ts en ov d w nv T (rankLoop ts en u v nu nw o) k z wr nvr Rr) (hu : isX ts (stX Rr) u = true) {z' : Int} {w2 : World} {nv2 : Value} (hS : Stp G w nv w2 nv2)
    (hx : PqX B G tv ts en ov d w2 nv2 (stX (takeX ts (stX Rr) u >>= primV ts en nu (peekX ts en (stX Rr)).at_ z o)))
    (hz : ∀ n st, (takeX ts (stX Rr) u >>= primV ts en nu (peekX ts en (stX Rr)).at_ z o) = .ok (n, st) → z' = (n : Nat)) :
    LpI B G tv ts en ov d w nv T (rankLoop ts en u v nu nw o) (k - 1) z' w2 nv2 (takeX ts (stX Rr) u >>= primV ts en nu (peekX ts en (stX Rr)).at_ z o) := by
  obtain ⟨n, st, rfl, hk⟩ := h.rk_ok hu
  obtain ⟨k, rfl⟩ : ∃ j, k = j + 1 := ⟨k - 1, by omega⟩
  have hu' : isP ts st.i u = true := hu
  obtain ⟨h1, h2, h3⟩ := h.v n st rfl
  subst h1
  have hx0 : takeX ts (stX (.ok (n, st) : Except PE (Nat × PS))) u = .ok ⟨st.i + 1, st.ns⟩ := by
    show (if isP ts st.i u then _ else _) = _
    rw [if_pos hu']
  have hp0 : (peekX ts en (stX (.ok (n, st) : Except PE (Nat × PS)))).at_ = hereP ts en st.i := peek_here ts en st
  rw [hx0, hp0] at hx hz ⊢
  refine ⟨hx, hS, ?_, ?_⟩
  · intro n' st' hr
    refine ⟨hz _ _ hr, ?_⟩
    have hf := primP_fwd (l := n) ho hr
    have := hf.lt; have := hf.le
    exact ⟨hf.le, by dsimp only at *; omega⟩
  · rw [← h.e]
    show _ = rankLoop ts en u v nu nw o (k + 1) n st
    rw [rankLoop, if_pos hu']
    rfl
theorem LpI.rk_v {u v : List UInt8} {nu nw : Int} (ho : Mono ts o) (h : LpI B G tv ts en ov d w nv T (rankLoop ts en u v nu nw o) k z wr nvr Rr) (hu : isX ts (stX Rr) u = false) (hv : isX ts (stX Rr) v = true) {z' : Int} {w2 : World} {nv2 : Value} (hS : Stp G w nv w2 nv2)
    (hx : PqX B G tv ts en ov d w2 nv2 (stX (takeX ts (stX Rr) v >>= primV ts en nw (peekX ts en (stX Rr)).at_ z o)))
    (hz : ∀ n st, (takeX ts (stX Rr) v >>= primV ts en nw (peekX ts en (stX Rr)).at_ z o) = .ok (n, st) → z' = (n : Nat)) :
    LpI B G tv ts en ov d w nv T (rankLoop ts en u v nu nw o) (k - 1) z' w2 nv2 (takeX ts (stX Rr) v >>= primV ts en nw (peekX ts en (stX Rr)).at_ z o) := by
  obtain ⟨n, st, rfl, hk⟩ := h.rk_ok hv
  obtain ⟨k, rfl⟩ : ∃ j, k = j + 1 := ⟨k - 1, by omega⟩
  have hu' : isP ts st.i u = false := hu
  have hv' : isP ts st.i v = true := hv
  obtain ⟨h1, h2, h3⟩ := h.v n st rfl
  subst h1
  have hx0 : takeX ts (stX (.ok (n, st) : Except PE (Nat × PS))) v = .ok ⟨st.i + 1, st.ns⟩ := by
    show (if isP ts st.i v then _ else _) = _
    rw [if_pos hv']
  have hp0 : (peekX ts en (stX (.ok (n, st) : Except PE (Nat × PS)))).at_ = hereP ts en st.i := peek_here ts en st
  rw [hx0, hp0] at hx hz ⊢
  refine ⟨hx, hS, ?_, ?_⟩
  · intro n' st' hr
    refine ⟨hz _ _ hr, ?_⟩
    have hf := primP_fwd (l := n) ho hr
    have := hf.lt; have := hf.le
    exact ⟨hf.le, by dsimp only at *; omega⟩
  · rw [← h.e]
    show _ = rankLoop ts en u v nu nw o (k + 1) n st
    rw [rankLoop, if_neg (by rw [hu']; decide), if_pos hv']
    rfl
end
theorem PqX.le {B G : Nat} {tv : Value} {ts : List Tk} {en : Int} {ov : Value} {d : Int} {w : World} {nv : Value} {R : Except PE (Nat × PS)} (h : PqX B G tv ts en ov d w nv (stX R)) : ∀ n st, R = .ok (n, st) → st.i ≤ ts.length := by
  rintro n st rfl
  exact (show PqW B G tv ts en ov d w nv st .nilIface from h).il
theorem app_start {ts : List Tk} {en : Int} {e : PS → Except PE (Nat × PS)} {R : Except PE PS} {beg : Int} (hbeg : (peekX ts en R).at_ = beg) : ((R >>= firstP ts en e) >>= fun p => appLoop ts en e beg (ts.length + 1) p.1 p.2) = (R >>= applyP ts en e) := by
  rcases R with _ | st
  · rfl
  rw [peek_here] at hbeg
  subst hbeg
  rfl
theorem rk_start {ts : List Tk} {en : Int} {o f : PS → Except PE (Nat × PS)} {R : Except PE PS} {u v : List UInt8} {nu nw : Int} (hf : ∀ st, f st = (do
  let (l, st) ← o st
  rankLoop ts en u v nu nw o (ts.length + 1) l st)) : ((R >>= o) >>= fun p => rankLoop ts en u v nu nw o (ts.length + 1) p.1 p.2) = (R >>= f) := by
  rcases R with _ | st
  · rfl
  show _ = f st
  rw [hf]
  rfl
end Go.Proofs.YtidlljookjicpaaGreatDoor

/- The program's parser: an application. -/
namespace Go.Proofs.YtidlljookjicpaaGreatDoor
open Go.RowKit
set_option linter.unusedVariables false
set_option linter.unusedSimpArgs false

set_option maxRecDepth 100000 in
set_option maxHeartbeats 4000000 in
theorem papply_any (B G : Nat) (tv : Value) (ts : List Tk) (en : Int) (ov : Value) (d : Int) (e : PS → Except PE (Nat × PS)) (he : Mono ts e) (kE : Hid (ExC B G tv ts en ov 54 d e)) (w : World) (nv : Value) (R : Except PE PS) (h : Hid (PqX B G tv ts en ov d w nv R)) :
    Calls Tryz.prog 130 #[.pointer (some ⟨G, 0, none⟩)] w (PqN B G tv ts en ov d w nv (R >>= applyP ts en e)) := by
  have kA := Lib.hid (atom_ex kE)
  have k := Lib.hid (place_any B G tv ts en ov d w nv R h)
  obtain ⟨beg, hbeg⟩ : ∃ b, (peekX ts en R).at_ = b := ⟨_, rfl⟩
  rw [hbeg] at k
  have hbeg := Lib.hid hbeg
  have he := Lib.hid he
  go_enter Tryz.func130, Tryz.ntmps130
  go_wp2_with fail
  refine k.out.mono ?_
  rintro e0 v0 ⟨rfl, hb0⟩
  have hb0 := Lib.hid hb0
  clear k
  have k1 := Lib.hid (pfirst_any B G tv ts en ov d e kE beg v0 nv R hbeg.out (Lib.hid (h.out.below hb0.out)))
  go_wp2_with fail
  refine k1.out.mono ?_
  rintro e1 w1 ⟨v1, nv1, rfl, hp1, hs1, hv1⟩
  have hI0 : Hid (LpI B G tv ts en ov d w nv (R >>= applyP ts en e) (appLoop ts en e beg) (ts.length + 1) v1 w1 nv1 (R >>= firstP ts en e)) := Lib.hid ⟨hp1, (Stp.below hb0.out).trans hs1, fun n st hr => ⟨hv1 n st hr, hp1.le n st hr, by omega⟩, app_start hbeg.out⟩
  clear k1 hp1 hs1 hv1
  go_wp2_with fail
  go_loopg [4, 5] (ts.length + 1) (fun k lv rv wr => ∃ (z : Int) (nvr : Value) (Rr : Except PE (Nat × PS)), lv = .int .i64 z ∧ Hid (LpI B G tv ts en ov d w nv (R >>= applyP ts en e) (appLoop ts en e beg) k z wr nvr Rr))
  case atStart => exact ⟨v1, nv1, _, rfl, hI0⟩
  case round =>
    obtain ⟨z, nvr, Rr, rfl, hI⟩ := hrel
    clear hI0
    have k2 := Lib.hid (isAtom_any B G tv ts en ov d wr nvr _ (Lib.hid hI.out.x))
    obtain ⟨q, hq⟩ : ∃ q, startsX ts (stX Rr) = q := ⟨_, rfl⟩
    rw [hq] at k2
    have hq := Lib.hid hq
    go_wp2_with fail
    refine k2.out.mono ?_
    rintro e2 w2 ⟨rfl, hb2⟩
    have hb2 := Lib.hid hb2
    clear k2
    cases q
    · have hfin : Hid (PqN B G tv ts en ov d w nv (R >>= applyP ts en e) (.returned (.int .i64 z)) w2) := Lib.hid (by rw [← hI.out.app_end hq.out]; exact ⟨z, nvr, rfl, hI.out.x.below hb2.out, hI.out.s.next hb2.out, fun x st' hr => (hI.out.v x st' hr).1⟩)
      clear hI
      go_wp2_with fail
      go_ret
      exact hfin.out
    · have hk0 := Lib.hid (hI.out.app_ok hq.out)
      have kA2 := Lib.hid (kA.out w2 nvr _ (hI.out.x.below hb2.out))
      go_wp2_with fail
      refine kA2.out.mono ?_
      rintro e3 w3 ⟨a3, nv3, rfl, hp3, hs3, hv3⟩
      have k4 := Lib.hid (node_any B G tv ts en ov d _ nv3 _ ⟨4, z, a3, 0, 0, ⟨#[]⟩, ⟨#[]⟩, ⟨#[]⟩, ⟨#[]⟩, beg⟩ (Lib.hid hp3))
      have hS3 := Lib.hid ((hI.out.s.next hb2.out).trans hs3)
      have hv3 := Lib.hid hv3
      clear kA2 hp3 hs3
      go_wp2_with fail
      refine k4.out.mono ?_
      rintro e4 w4 ⟨a4, nv4, rfl, hp4, hs4, hv4⟩
      have hI4 := Lib.hid (hI.out.app_next he.out hq.out hv3.out (hS3.out.trans hs4) hp4 hv4)
      clear k4 hp4 hs4 hv4 hS3 hv3
      go_wp2_with fail
      go_roundg (gk - 1)
      case measure => obtain ⟨_, _, _, hk⟩ := hk0.out; omega
      case rel => exact ⟨a4, nv4, _, rfl, hI4⟩
end Go.Proofs.YtidlljookjicpaaGreatDoor

/- The program's parser: products and sums. -/
namespace Go.Proofs.YtidlljookjicpaaGreatDoor
open Go.RowKit
set_option linter.unusedVariables false
set_option linter.unusedSimpArgs false

theorem apply_ex {B G : Nat} {tv : Value} {ts : List Tk} {en : Int} {ov : Value} {d : Int} {e : PS → Except PE (Nat × PS)} (he : Mono ts e) (kE : Hid (ExC B G tv ts en ov 54 d e)) : ExC B G tv ts en ov 130 d (applyP ts en e) := fun w nv R h => papply_any B G tv ts en ov d e he kE w nv R (Lib.hid h)
set_option maxRecDepth 100000 in
set_option maxHeartbeats 4000000 in
theorem pproduct_any (B G : Nat) (tv : Value) (ts : List Tk) (en : Int) (ov : Value) (d : Int) (e : PS → Except PE (Nat × PS)) (he : Mono ts e) (kE : Hid (ExC B G tv ts en ov 54 d e)) (w : World) (nv : Value) (R : Except PE PS) (h : Hid (PqX B G tv ts en ov d w nv R)) :
    Calls Tryz.prog 124 #[.pointer (some ⟨G, 0, none⟩)] w (PqN B G tv ts en ov d w nv (R >>= productP ts en e)) := by
  have kA := Lib.hid (apply_ex he kE)
  have k1 := Lib.hid (kA.out w nv R h.out)
  have hm := Lib.hid (applyP_fwd (en := en) he)
  have hF : Hid (∀ (xs : Array Value) (W : World), (callFunc 130 xs).run Tryz.prog W = .ok (.enter 130 xs) W) := Lib.hid fun _ _ => by kernel_rfl
  go_enter Tryz.func124, Tryz.ntmps124
  go_wp2_with fail
  refine k1.out.mono ?_
  rintro e1 w1 ⟨v1, nv1, rfl, hp1, hs1, hv1⟩
  have hI0 : Hid (LpI B G tv ts en ov d w nv (R >>= productP ts en e) (rankLoop ts en sgMul sgDiv 2 3 (applyP ts en e)) (ts.length + 1) v1 w1 nv1 (R >>= applyP ts en e)) := Lib.hid ⟨hp1, hs1, fun n st hr => ⟨hv1 n st hr, hp1.le n st hr, by omega⟩, rk_start fun st => rfl⟩
  clear k1 hp1 hs1 hv1
  go_wp2_with fail
  go_loopg [3, 4] (ts.length + 1) (fun k lv av wr => ∃ (z : Int) (nvr : Value) (Rr : Except PE (Nat × PS)), lv = .int .i64 z ∧ Hid (LpI B G tv ts en ov d w nv (R >>= productP ts en e) (rankLoop ts en sgMul sgDiv 2 3 (applyP ts en e)) k z wr nvr Rr))
  case atStart => exact ⟨v1, nv1, _, rfl, hI0⟩
  case round =>
    obtain ⟨z, nvr, Rr, rfl, hI⟩ := hrel
    clear hI0
    have k2 := Lib.hid (place_any B G tv ts en ov d wr nvr _ (Lib.hid hI.out.x))
    obtain ⟨at_, hat⟩ : ∃ b, (peekX ts en (stX Rr)).at_ = b := ⟨_, rfl⟩
    rw [hat] at k2
    have hat := Lib.hid hat
    go_wp2_with fail
    refine k2.out.mono ?_
    rintro e2 w2 ⟨rfl, hb2⟩
    have hx2 := Lib.hid (hI.out.x.below hb2)
    have hS2 := Lib.hid (hI.out.s.next hb2)
    clear k2 hb2
    have k3 := Lib.hid (skip_any B G tv ts en ov d w2 nvr _ sgMul hx2)
    obtain ⟨q, hq⟩ : ∃ q, isX ts (stX Rr) sgMul = q := ⟨_, rfl⟩
    rw [hq] at k3
    have hq := Lib.hid hq
    go_wp2_with fail
    refine k3.out.mono ?_
    rintro e3 w3 ⟨rfl, hx3, hb3⟩
    have hx3 := Lib.hid hx3
    have hS3 := Lib.hid (hS2.out.trans (Stp.of (nv := nvr) hb3))
    clear k3 hx2 hS2 hb3
    cases q
    · rw [take_no hq.out] at hx3
      have k4 := Lib.hid (skip_any B G tv ts en ov d w3 nvr _ sgDiv hx3)
      obtain ⟨q2, hq2⟩ : ∃ q, isX ts (stX Rr) sgDiv = q := ⟨_, rfl⟩
      rw [hq2] at k4
      have hq2 := Lib.hid hq2
      go_wp2_with fail
      refine k4.out.mono ?_
      rintro e4 w4 ⟨rfl, hx4, hb4⟩
      have hx4 := Lib.hid hx4
      have hS4 := Lib.hid (hS3.out.trans (Stp.of (nv := nvr) hb4))
      clear k4 hx3 hS3 hb4
      cases q2
      · rw [take_no hq2.out] at hx4
        have hfin : Hid (PqN B G tv ts en ov d w nv (R >>= productP ts en e) (.returned (.int .i64 z)) w4) := Lib.hid (by rw [← hI.out.rk_end hq.out hq2.out]; exact ⟨z, nvr, rfl, hx4.out, hS4.out, fun x st' hr => (hI.out.v x st' hr).1⟩)
        clear hI
        go_wp2_with fail
        go_ret
        exact hfin.out
      · have hk0 := Lib.hid (hI.out.rk_ok hq2.out)
        have k5 := Lib.hid (pprim_any B G tv ts en ov d _ _ kA hF 3 at_ z w4 nvr _ hx4)
        go_wp2_with fail
        refine k5.out.mono ?_
        rintro e5 w5 ⟨a5, nv5, rfl, hp5, hs5, hv5⟩
        have hI5 := Lib.hid (hI.out.rk_v hm.out hq.out hq2.out (hS4.out.trans hs5) (by rw [hat.out]; exact hp5) (by rw [hat.out]; exact hv5))
        clear k5 hp5 hs5 hv5 hS4 hx4
        go_wp2_with fail
        go_roundg (gk - 1)
        case measure => obtain ⟨_, _, _, hk⟩ := hk0.out; omega
        case rel => exact ⟨a5, nv5, _, rfl, hI5⟩
    · have hk0 := Lib.hid (hI.out.rk_ok hq.out)
      have k5 := Lib.hid (pprim_any B G tv ts en ov d _ _ kA hF 2 at_ z w3 nvr _ hx3)
      go_wp2_with fail
      refine k5.out.mono ?_
      rintro e5 w5 ⟨a5, nv5, rfl, hp5, hs5, hv5⟩
      have hI5 := Lib.hid (hI.out.rk_u hm.out hq.out (hS3.out.trans hs5) (by rw [hat.out]; exact hp5) (by rw [hat.out]; exact hv5))
      clear k5 hp5 hs5 hv5 hS3 hx3
      go_wp2_with fail
      go_roundg (gk - 1)
      case measure => obtain ⟨_, _, _, hk⟩ := hk0.out; omega
      case rel => exact ⟨a5, nv5, _, rfl, hI5⟩
theorem product_ex {B G : Nat} {tv : Value} {ts : List Tk} {en : Int} {ov : Value} {d : Int} {e : PS → Except PE (Nat × PS)} (he : Mono ts e) (kE : Hid (ExC B G tv ts en ov 54 d e)) : ExC B G tv ts en ov 124 d (productP ts en e) := fun w nv R h => pproduct_any B G tv ts en ov d e he kE w nv R (Lib.hid h)
set_option maxRecDepth 100000 in
set_option maxHeartbeats 4000000 in
theorem psum_any (B G : Nat) (tv : Value) (ts : List Tk) (en : Int) (ov : Value) (d : Int) (e : PS → Except PE (Nat × PS)) (he : Mono ts e) (kE : Hid (ExC B G tv ts en ov 54 d e)) (w : World) (nv : Value) (R : Except PE PS) (h : Hid (PqX B G tv ts en ov d w nv R)) :
    Calls Tryz.prog 117 #[.pointer (some ⟨G, 0, none⟩)] w (PqN B G tv ts en ov d w nv (R >>= sumP ts en e)) := by
  have kA := Lib.hid (product_ex he kE)
  have k1 := Lib.hid (kA.out w nv R h.out)
  have hm := Lib.hid (productP_fwd (en := en) he)
  have hF : Hid (∀ (xs : Array Value) (W : World), (callFunc 124 xs).run Tryz.prog W = .ok (.enter 124 xs) W) := Lib.hid fun _ _ => by kernel_rfl
  go_enter Tryz.func117, Tryz.ntmps117
  go_wp2_with fail
  refine k1.out.mono ?_
  rintro e1 w1 ⟨v1, nv1, rfl, hp1, hs1, hv1⟩
  have hI0 : Hid (LpI B G tv ts en ov d w nv (R >>= sumP ts en e) (rankLoop ts en sgAdd sgSub 0 1 (productP ts en e)) (ts.length + 1) v1 w1 nv1 (R >>= productP ts en e)) := Lib.hid ⟨hp1, hs1, fun n st hr => ⟨hv1 n st hr, hp1.le n st hr, by omega⟩, rk_start fun st => rfl⟩
  clear k1 hp1 hs1 hv1
  go_wp2_with fail
  go_loopg [3, 4] (ts.length + 1) (fun k lv av wr => ∃ (z : Int) (nvr : Value) (Rr : Except PE (Nat × PS)), lv = .int .i64 z ∧ Hid (LpI B G tv ts en ov d w nv (R >>= sumP ts en e) (rankLoop ts en sgAdd sgSub 0 1 (productP ts en e)) k z wr nvr Rr))
  case atStart => exact ⟨v1, nv1, _, rfl, hI0⟩
  case round =>
    obtain ⟨z, nvr, Rr, rfl, hI⟩ := hrel
    clear hI0
    have k2 := Lib.hid (place_any B G tv ts en ov d wr nvr _ (Lib.hid hI.out.x))
    obtain ⟨at_, hat⟩ : ∃ b, (peekX ts en (stX Rr)).at_ = b := ⟨_, rfl⟩
    rw [hat] at k2
    have hat := Lib.hid hat
    go_wp2_with fail
    refine k2.out.mono ?_
    rintro e2 w2 ⟨rfl, hb2⟩
    have hx2 := Lib.hid (hI.out.x.below hb2)
    have hS2 := Lib.hid (hI.out.s.next hb2)
    clear k2 hb2
    have k3 := Lib.hid (skip_any B G tv ts en ov d w2 nvr _ sgAdd hx2)
    obtain ⟨q, hq⟩ : ∃ q, isX ts (stX Rr) sgAdd = q := ⟨_, rfl⟩
    rw [hq] at k3
    have hq := Lib.hid hq
    go_wp2_with fail
    refine k3.out.mono ?_
    rintro e3 w3 ⟨rfl, hx3, hb3⟩
    have hx3 := Lib.hid hx3
    have hS3 := Lib.hid (hS2.out.trans (Stp.of (nv := nvr) hb3))
    clear k3 hx2 hS2 hb3
    cases q
    · rw [take_no hq.out] at hx3
      have k4 := Lib.hid (skip_any B G tv ts en ov d w3 nvr _ sgSub hx3)
      obtain ⟨q2, hq2⟩ : ∃ q, isX ts (stX Rr) sgSub = q := ⟨_, rfl⟩
      rw [hq2] at k4
      have hq2 := Lib.hid hq2
      go_wp2_with fail
      refine k4.out.mono ?_
      rintro e4 w4 ⟨rfl, hx4, hb4⟩
      have hx4 := Lib.hid hx4
      have hS4 := Lib.hid (hS3.out.trans (Stp.of (nv := nvr) hb4))
      clear k4 hx3 hS3 hb4
      cases q2
      · rw [take_no hq2.out] at hx4
        have hfin : Hid (PqN B G tv ts en ov d w nv (R >>= sumP ts en e) (.returned (.int .i64 z)) w4) := Lib.hid (by rw [← hI.out.rk_end hq.out hq2.out]; exact ⟨z, nvr, rfl, hx4.out, hS4.out, fun x st' hr => (hI.out.v x st' hr).1⟩)
        clear hI
        go_wp2_with fail
        go_ret
        exact hfin.out
      · have hk0 := Lib.hid (hI.out.rk_ok hq2.out)
        have k5 := Lib.hid (pprim_any B G tv ts en ov d _ _ kA hF 1 at_ z w4 nvr _ hx4)
        go_wp2_with fail
        refine k5.out.mono ?_
        rintro e5 w5 ⟨a5, nv5, rfl, hp5, hs5, hv5⟩
        have hI5 := Lib.hid (hI.out.rk_v hm.out hq.out hq2.out (hS4.out.trans hs5) (by rw [hat.out]; exact hp5) (by rw [hat.out]; exact hv5))
        clear k5 hp5 hs5 hv5 hS4 hx4
        go_wp2_with fail
        go_roundg (gk - 1)
        case measure => obtain ⟨_, _, _, hk⟩ := hk0.out; omega
        case rel => exact ⟨a5, nv5, _, rfl, hI5⟩
    · have hk0 := Lib.hid (hI.out.rk_ok hq.out)
      have k5 := Lib.hid (pprim_any B G tv ts en ov d _ _ kA hF 0 at_ z w3 nvr _ hx3)
      go_wp2_with fail
      refine k5.out.mono ?_
      rintro e5 w5 ⟨a5, nv5, rfl, hp5, hs5, hv5⟩
      have hI5 := Lib.hid (hI.out.rk_u hm.out hq.out (hS3.out.trans hs5) (by rw [hat.out]; exact hp5) (by rw [hat.out]; exact hv5))
      clear k5 hp5 hs5 hv5 hS3 hx3
      go_wp2_with fail
      go_roundg (gk - 1)
      case measure => obtain ⟨_, _, _, hk⟩ := hk0.out; omega
      case rel => exact ⟨a5, nv5, _, rfl, hI5⟩
theorem sum_ex {B G : Nat} {tv : Value} {ts : List Tk} {en : Int} {ov : Value} {d : Int} {e : PS → Except PE (Nat × PS)} (he : Mono ts e) (kE : Hid (ExC B G tv ts en ov 54 d e)) : ExC B G tv ts en ov 117 d (sumP ts en e) := fun w nv R h => psum_any B G tv ts en ov d e he kE w nv R (Lib.hid h)
end Go.Proofs.YtidlljookjicpaaGreatDoor

/- The program's parser: a comparison, an expression's opening, and every depth. -/
namespace Go.Proofs.YtidlljookjicpaaGreatDoor
open Go.RowKit
set_option linter.unusedVariables false
set_option linter.unusedSimpArgs false

section
variable {ts : List Tk} {en : Int} {e : PS → Except PE (Nat × PS)} {R : Except PE PS} {z : Int}
theorem cmp_u (hz : ∀ n st, (R >>= sumP ts en e) = .ok (n, st) → z = (n : Nat)) (hu : isX ts (stX (R >>= sumP ts en e)) sgEq2 = true) : (takeX ts (stX (R >>= sumP ts en e)) sgEq2 >>= primV ts en 4 (peekX ts en (stX (R >>= sumP ts en e))).at_ z (sumP ts en e)) = (R >>= compareP ts en e) := by
  rcases R with _ | st
  · cases hu
  have hz : ∀ n s1, sumP ts en e st = .ok (n, s1) → z = (n : Nat) := hz
  have hu : isX ts (stX (sumP ts en e st)) sgEq2 = true := hu
  show (takeX ts (stX (sumP ts en e st)) sgEq2 >>= primV ts en 4 (peekX ts en (stX (sumP ts en e st))).at_ z (sumP ts en e)) = compareP ts en e st
  unfold compareP
  rcases ha : sumP ts en e st with _ | ⟨n, s1⟩
  · rw [ha] at hu; cases hu
  rw [ha] at hu
  obtain rfl := hz _ _ ha
  have hu : isP ts s1.i sgEq2 = true := hu
  have hx0 : takeX ts (stX (.ok (n, s1) : Except PE (Nat × PS))) sgEq2 = .ok ⟨s1.i + 1, s1.ns⟩ := by
    show (if isP ts s1.i sgEq2 then _ else _) = _
    rw [if_pos hu]
  have hp0 : (peekX ts en (stX (.ok (n, s1) : Except PE (Nat × PS)))).at_ = hereP ts en s1.i := peek_here ts en s1
  rw [hx0, hp0]
  show primV ts en 4 (hereP ts en s1.i) n (sumP ts en e) ⟨s1.i + 1, s1.ns⟩ = (if isP ts s1.i sgEq2 then _ else _)
  rw [if_pos hu]
  rfl
theorem cmp_v (hz : ∀ n st, (R >>= sumP ts en e) = .ok (n, st) → z = (n : Nat)) (hu : isX ts (stX (R >>= sumP ts en e)) sgEq2 = false) (hv : isX ts (stX (R >>= sumP ts en e)) sgLess = true) : (takeX ts (stX (R >>= sumP ts en e)) sgLess >>= primV ts en 5 (peekX ts en (stX (R >>= sumP ts en e))).at_ z (sumP ts en e)) = (R >>= compareP ts en e) := by
  rcases R with _ | st
  · cases hv
  have hz : ∀ n s1, sumP ts en e st = .ok (n, s1) → z = (n : Nat) := hz
  have hu : isX ts (stX (sumP ts en e st)) sgEq2 = false := hu
  have hv : isX ts (stX (sumP ts en e st)) sgLess = true := hv
  show (takeX ts (stX (sumP ts en e st)) sgLess >>= primV ts en 5 (peekX ts en (stX (sumP ts en e st))).at_ z (sumP ts en e)) = compareP ts en e st
  unfold compareP
  rcases ha : sumP ts en e st with _ | ⟨n, s1⟩
  · rw [ha] at hv; cases hv
  rw [ha] at hu hv
  obtain rfl := hz _ _ ha
  have hu : isP ts s1.i sgEq2 = false := hu
  have hv : isP ts s1.i sgLess = true := hv
  have hx0 : takeX ts (stX (.ok (n, s1) : Except PE (Nat × PS))) sgLess = .ok ⟨s1.i + 1, s1.ns⟩ := by
    show (if isP ts s1.i sgLess then _ else _) = _
    rw [if_pos hv]
  have hp0 : (peekX ts en (stX (.ok (n, s1) : Except PE (Nat × PS)))).at_ = hereP ts en s1.i := peek_here ts en s1
  rw [hx0, hp0]
  show primV ts en 5 (hereP ts en s1.i) n (sumP ts en e) ⟨s1.i + 1, s1.ns⟩ = (if isP ts s1.i sgEq2 then _ else if isP ts s1.i sgLess then _ else _)
  rw [if_neg (by rw [hu]; decide), if_pos hv]
  rfl
theorem cmp_end (hu : isX ts (stX (R >>= sumP ts en e)) sgEq2 = false) (hv : isX ts (stX (R >>= sumP ts en e)) sgLess = false) : (R >>= sumP ts en e) = (R >>= compareP ts en e) := by
  rcases R with _ | st
  · rfl
  have hu : isX ts (stX (sumP ts en e st)) sgEq2 = false := hu
  have hv : isX ts (stX (sumP ts en e st)) sgLess = false := hv
  show sumP ts en e st = compareP ts en e st
  unfold compareP
  rcases ha : sumP ts en e st with _ | ⟨n, s1⟩
  · rfl
  rw [ha] at hu hv
  have hu : isP ts s1.i sgEq2 = false := hu
  have hv : isP ts s1.i sgLess = false := hv
  show _ = (if isP ts s1.i sgEq2 then _ else if isP ts s1.i sgLess then _ else _)
  rw [if_neg (by rw [hu]; decide), if_neg (by rw [hv]; decide)]
theorem op_fun (h0 : isX ts R kwFun = true) : (takeX ts R kwFun >>= funP ts en e (peekX ts en R).at_) = (R >>= openP ts en e) := by
  obtain ⟨st, rfl, _, hx⟩ := isX_ok h0
  have h0 : isP ts st.i kwFun = true := h0
  rw [hx, peek_here]
  show _ = openP ts en e st
  unfold openP
  rw [if_pos h0]
  rfl
theorem op_rec (h0 : isX ts R kwFun = false) (h1 : isX ts R kwLet = true) (h2 : isX ts (takeX ts R kwLet) kwRec = true) : (takeX ts (takeX ts R kwLet) kwRec >>= recP ts en e (peekX ts en R).at_) = (R >>= openP ts en e) := by
  obtain ⟨st, rfl, _, hx⟩ := isX_ok h1
  have h0 : isP ts st.i kwFun = false := h0
  have h1 : isP ts st.i kwLet = true := h1
  rw [hx] at h2 ⊢
  have h2 : isP ts (st.i + 1) kwRec = true := h2
  have hx2 : takeX ts (.ok ⟨st.i + 1, st.ns⟩) kwRec = .ok ⟨st.i + 2, st.ns⟩ := by
    show (if isP ts (st.i + 1) kwRec then _ else _) = _
    rw [if_pos h2]
  rw [hx2, peek_here]
  show _ = openP ts en e st
  unfold openP
  rw [if_neg (by rw [h0]; decide), if_pos h1, if_pos h2]
  rfl
theorem op_let (h0 : isX ts R kwFun = false) (h1 : isX ts R kwLet = true) (h2 : isX ts (takeX ts R kwLet) kwRec = false) : (takeX ts R kwLet >>= letP ts en e (peekX ts en R).at_) = (R >>= openP ts en e) := by
  obtain ⟨st, rfl, _, hx⟩ := isX_ok h1
  have h0 : isP ts st.i kwFun = false := h0
  have h1 : isP ts st.i kwLet = true := h1
  rw [hx] at h2 ⊢
  have h2 : isP ts (st.i + 1) kwRec = false := h2
  rw [peek_here]
  show _ = openP ts en e st
  unfold openP
  rw [if_neg (by rw [h0]; decide), if_pos h1, if_neg (by rw [h2]; decide)]
  rfl
theorem op_if (h0 : isX ts R kwFun = false) (h1 : isX ts R kwLet = false) (h2 : isX ts R kwIf = true) : (takeX ts R kwIf >>= ifP ts en e (peekX ts en R).at_) = (R >>= openP ts en e) := by
  obtain ⟨st, rfl, _, hx⟩ := isX_ok h2
  have h0 : isP ts st.i kwFun = false := h0
  have h1 : isP ts st.i kwLet = false := h1
  have h2 : isP ts st.i kwIf = true := h2
  rw [hx, peek_here]
  show _ = openP ts en e st
  unfold openP
  rw [if_neg (by rw [h0]; decide), if_neg (by rw [h1]; decide), if_pos h2]
  rfl
theorem op_cmp (h0 : isX ts R kwFun = false) (h1 : isX ts R kwLet = false) (h2 : isX ts R kwIf = false) : (R >>= compareP ts en e) = (R >>= openP ts en e) := by
  rcases R with _ | st
  · rfl
  have h0 : isP ts st.i kwFun = false := h0
  have h1 : isP ts st.i kwLet = false := h1
  have h2 : isP ts st.i kwIf = false := h2
  show _ = openP ts en e st
  unfold openP
  rw [if_neg (by rw [h0]; decide), if_neg (by rw [h1]; decide), if_neg (by rw [h2]; decide)]
  rfl
end
set_option maxRecDepth 100000 in
set_option maxHeartbeats 4000000 in
theorem pcompare_any (B G : Nat) (tv : Value) (ts : List Tk) (en : Int) (ov : Value) (d : Int) (e : PS → Except PE (Nat × PS)) (he : Mono ts e) (kE : Hid (ExC B G tv ts en ov 54 d e)) (w : World) (nv : Value) (R : Except PE PS) (h : Hid (PqX B G tv ts en ov d w nv R)) :
    Calls Tryz.prog 109 #[.pointer (some ⟨G, 0, none⟩)] w (PqN B G tv ts en ov d w nv (R >>= compareP ts en e)) := by
  have kA := Lib.hid (sum_ex he kE)
  have k1 := Lib.hid (kA.out w nv R h.out)
  have hF : Hid (∀ (xs : Array Value) (W : World), (callFunc 117 xs).run Tryz.prog W = .ok (.enter 117 xs) W) := Lib.hid fun _ _ => by kernel_rfl
  have cU := Lib.hid (fun z => cmp_u (ts := ts) (en := en) (e := e) (R := R) (z := z))
  have cV := Lib.hid (fun z => cmp_v (ts := ts) (en := en) (e := e) (R := R) (z := z))
  have cE := Lib.hid (cmp_end (ts := ts) (en := en) (e := e) (R := R))
  obtain ⟨T, hT⟩ : ∃ T, (R >>= compareP ts en e) = T := ⟨_, rfl⟩
  rw [hT] at cU cV cE ⊢
  obtain ⟨R1, hR1⟩ : ∃ T, (R >>= sumP ts en e) = T := ⟨_, rfl⟩
  rw [hR1] at k1 cU cV cE
  clear hT hR1
  go_enter Tryz.func109, Tryz.ntmps109
  go_wp2_with fail
  refine k1.out.mono ?_
  rintro e1 w1 ⟨z, nvr, rfl, hp1, hs1, hv1⟩
  have hv1 := Lib.hid hv1
  have hp1 := Lib.hid hp1
  have hs1 := Lib.hid hs1
  clear k1
  have k2 := Lib.hid (place_any B G tv ts en ov d w1 nvr _ hp1)
  obtain ⟨at_, hat⟩ : ∃ b, (peekX ts en (stX R1)).at_ = b := ⟨_, rfl⟩
  rw [hat] at k2 cU cV
  clear hat
  go_wp2_with fail
  refine k2.out.mono ?_
  rintro e2 w2 ⟨rfl, hb2⟩
  have hx2 := Lib.hid (hp1.out.below hb2)
  have hS2 := Lib.hid (hs1.out.next hb2)
  clear k2 hb2 hp1 hs1
  have k3 := Lib.hid (skip_any B G tv ts en ov d w2 nvr _ sgEq2 hx2)
  obtain ⟨q, hq⟩ : ∃ q, isX ts (stX R1) sgEq2 = q := ⟨_, rfl⟩
  rw [hq] at k3
  have hq := Lib.hid hq
  go_wp2_with fail
  refine k3.out.mono ?_
  rintro e3 w3 ⟨rfl, hx3, hb3⟩
  have hx3 := Lib.hid hx3
  have hS3 := Lib.hid (hS2.out.trans (Stp.of (nv := nvr) hb3))
  clear k3 hx2 hS2 hb3
  cases q
  · rw [take_no hq.out] at hx3
    have k4 := Lib.hid (skip_any B G tv ts en ov d w3 nvr _ sgLess hx3)
    obtain ⟨r, hr⟩ : ∃ q, isX ts (stX R1) sgLess = q := ⟨_, rfl⟩
    rw [hr] at k4
    have hr := Lib.hid hr
    go_wp2_with fail
    refine k4.out.mono ?_
    rintro e4 w4 ⟨rfl, hx4, hb4⟩
    have hx4 := Lib.hid hx4
    have hS4 := Lib.hid (hS3.out.trans (Stp.of (nv := nvr) hb4))
    clear k4 hx3 hS3 hb4
    cases r
    · rw [take_no hr.out] at hx4
      have hfin : Hid (PqN B G tv ts en ov d w nv T (.returned (.int .i64 z)) w4) := Lib.hid (by rw [← cE.out hq.out hr.out]; exact ⟨z, nvr, rfl, hx4.out, hS4.out, hv1.out⟩)
      clear cE cU cV
      go_wp2_with fail
      go_ret
      exact hfin.out
    · have hc := Lib.hid (cV.out z hv1.out hq.out hr.out)
      clear cE cU cV
      have k5 := Lib.hid (pprim_any B G tv ts en ov d _ _ kA hF 5 at_ z w4 nvr _ hx4)
      go_wp2_with fail
      refine k5.out.mono ?_
      rintro e5 w5 ⟨a5, nv5, rfl, hp5, hs5, hv5⟩
      have hfin : Hid (PqN B G tv ts en ov d w nv T (.returned (.int .i64 a5)) w5) := Lib.hid (by
        rw [hc.out] at hp5 hv5
        exact ⟨a5, nv5, rfl, hp5, hS4.out.trans hs5, hv5⟩)
      clear k5 hp5 hs5 hv5
      go_wp2_with fail
      go_ret
      exact hfin.out
  · have hc := Lib.hid (cU.out z hv1.out hq.out)
    clear cE cU cV
    have k5 := Lib.hid (pprim_any B G tv ts en ov d _ _ kA hF 4 at_ z w3 nvr _ hx3)
    go_wp2_with fail
    refine k5.out.mono ?_
    rintro e5 w5 ⟨a5, nv5, rfl, hp5, hs5, hv5⟩
    have hfin : Hid (PqN B G tv ts en ov d w nv T (.returned (.int .i64 a5)) w5) := Lib.hid (by
      rw [hc.out] at hp5 hv5
      exact ⟨a5, nv5, rfl, hp5, hS3.out.trans hs5, hv5⟩)
    clear k5 hp5 hs5 hv5
    go_wp2_with fail
    go_ret
    exact hfin.out
theorem compare_ex {B G : Nat} {tv : Value} {ts : List Tk} {en : Int} {ov : Value} {d : Int} {e : PS → Except PE (Nat × PS)} (he : Mono ts e) (kE : Hid (ExC B G tv ts en ov 54 d e)) : ExC B G tv ts en ov 109 d (compareP ts en e) := fun w nv R h => pcompare_any B G tv ts en ov d e he kE w nv R (Lib.hid h)
set_option maxRecDepth 100000 in
set_option maxHeartbeats 4000000 in
theorem popen_any (B G : Nat) (tv : Value) (ts : List Tk) (en : Int) (ov : Value) (d : Int) (e : PS → Except PE (Nat × PS)) (he : Mono ts e) (kE : Hid (ExC B G tv ts en ov 54 d e)) (w : World) (nv : Value) (R : Except PE PS) (h : Hid (PqX B G tv ts en ov d w nv R)) :
    Calls Tryz.prog 85 #[.pointer (some ⟨G, 0, none⟩)] w (PqN B G tv ts en ov d w nv (R >>= openP ts en e)) := by
  have kC := Lib.hid (compare_ex he kE)
  have cF := Lib.hid (op_fun (ts := ts) (en := en) (e := e) (R := R))
  have cR := Lib.hid (op_rec (ts := ts) (en := en) (e := e) (R := R))
  have cL := Lib.hid (op_let (ts := ts) (en := en) (e := e) (R := R))
  have cI := Lib.hid (op_if (ts := ts) (en := en) (e := e) (R := R))
  have cC := Lib.hid (op_cmp (ts := ts) (en := en) (e := e) (R := R))
  obtain ⟨T, hT⟩ : ∃ T, (R >>= openP ts en e) = T := ⟨_, rfl⟩
  rw [hT] at cF cR cL cI cC ⊢
  clear hT
  have k2 := Lib.hid (place_any B G tv ts en ov d w nv R h)
  obtain ⟨at_, hat⟩ : ∃ b, (peekX ts en R).at_ = b := ⟨_, rfl⟩
  rw [hat] at k2 cF cR cL cI
  clear hat
  obtain ⟨nvr, hnv⟩ : ∃ x, x = nv := ⟨nv, rfl⟩
  go_enter Tryz.func85, Tryz.ntmps85
  go_wp2_with fail
  refine k2.out.mono ?_
  rintro e2 w2 ⟨rfl, hb2⟩
  have hx2 : Hid (PqX B G tv ts en ov d w2 nvr R) := Lib.hid (by rw [hnv]; exact h.out.below hb2)
  have hS2 : Hid (Stp G w nv w2 nvr) := Lib.hid (by rw [hnv]; exact Stp.below hb2)
  clear k2 hb2 hnv
  have k3 := Lib.hid (skip_any B G tv ts en ov d w2 nvr _ kwFun hx2)
  obtain ⟨q, hq⟩ : ∃ q, isX ts R kwFun = q := ⟨_, rfl⟩
  rw [hq] at k3
  have hq := Lib.hid hq
  go_wp2_with fail
  refine k3.out.mono ?_
  rintro e3 w3 ⟨rfl, hx3, hb3⟩
  have hx3 := Lib.hid hx3
  have hS3 := Lib.hid (hS2.out.trans (Stp.of (nv := nvr) hb3))
  clear k3 hx2 hS2 hb3
  cases q
  · rw [take_no hq.out] at hx3
    have k4 := Lib.hid (skip_any B G tv ts en ov d w3 nvr _ kwLet hx3)
    obtain ⟨r, hr⟩ : ∃ q, isX ts R kwLet = q := ⟨_, rfl⟩
    rw [hr] at k4
    have hr := Lib.hid hr
    go_wp2_with fail
    refine k4.out.mono ?_
    rintro e4 w4 ⟨rfl, hx4, hb4⟩
    have hx4 := Lib.hid hx4
    have hS4 := Lib.hid (hS3.out.trans (Stp.of (nv := nvr) hb4))
    clear k4 hx3 hS3 hb4
    cases r
    · rw [take_no hr.out] at hx4
      have k5 := Lib.hid (skip_any B G tv ts en ov d w4 nvr _ kwIf hx4)
      obtain ⟨s, hs⟩ : ∃ q, isX ts R kwIf = q := ⟨_, rfl⟩
      rw [hs] at k5
      have hs := Lib.hid hs
      go_wp2_with fail
      refine k5.out.mono ?_
      rintro e5 w5 ⟨rfl, hx5, hb5⟩
      have hx5 := Lib.hid hx5
      have hS5 := Lib.hid (hS4.out.trans (Stp.of (nv := nvr) hb5))
      clear k5 hx4 hS4 hb5
      cases s
      · rw [take_no hs.out] at hx5
        have hc := Lib.hid (cC.out hq.out hr.out hs.out)
        clear cF cR cL cI cC
        have k6 := Lib.hid (kC.out w5 nvr _ hx5.out)
        go_wp2_with fail
        refine k6.out.mono ?_
        rintro e6 w6 ⟨a6, nv6, rfl, hp6, hs6, hv6⟩
        have hfin : Hid (PqN B G tv ts en ov d w nv T (.returned (.int .i64 a6)) w6) := Lib.hid (by
          rw [hc.out] at hp6 hv6
          exact ⟨a6, nv6, rfl, hp6, hS5.out.trans hs6, hv6⟩)
        clear k6 hp6 hs6 hv6
        go_wp2_with fail
        go_ret
        exact hfin.out
      · have hc := Lib.hid (cI.out hq.out hr.out hs.out)
        clear cF cR cL cI cC
        have k6 := Lib.hid (pif_any B G tv ts en ov d e kE at_ w5 nvr _ hx5)
        go_wp2_with fail
        refine k6.out.mono ?_
        rintro e6 w6 ⟨a6, nv6, rfl, hp6, hs6, hv6⟩
        have hfin : Hid (PqN B G tv ts en ov d w nv T (.returned (.int .i64 a6)) w6) := Lib.hid (by
          rw [hc.out] at hp6 hv6
          exact ⟨a6, nv6, rfl, hp6, hS5.out.trans hs6, hv6⟩)
        clear k6 hp6 hs6 hv6
        go_wp2_with fail
        go_ret
        exact hfin.out
    · have k5 := Lib.hid (skip_any B G tv ts en ov d w4 nvr _ kwRec hx4)
      obtain ⟨s, hs⟩ : ∃ q, isX ts (takeX ts R kwLet) kwRec = q := ⟨_, rfl⟩
      rw [hs] at k5
      have hs := Lib.hid hs
      go_wp2_with fail
      refine k5.out.mono ?_
      rintro e5 w5 ⟨rfl, hx5, hb5⟩
      have hx5 := Lib.hid hx5
      have hS5 := Lib.hid (hS4.out.trans (Stp.of (nv := nvr) hb5))
      clear k5 hx4 hS4 hb5
      cases s
      · rw [take_no hs.out] at hx5
        have hc := Lib.hid (cL.out hq.out hr.out hs.out)
        clear cF cR cL cI cC
        have k6 := Lib.hid (plet_any B G tv ts en ov d e kE at_ w5 nvr _ hx5)
        go_wp2_with fail
        refine k6.out.mono ?_
        rintro e6 w6 ⟨a6, nv6, rfl, hp6, hs6, hv6⟩
        have hfin : Hid (PqN B G tv ts en ov d w nv T (.returned (.int .i64 a6)) w6) := Lib.hid (by
          rw [hc.out] at hp6 hv6
          exact ⟨a6, nv6, rfl, hp6, hS5.out.trans hs6, hv6⟩)
        clear k6 hp6 hs6 hv6
        go_wp2_with fail
        go_ret
        exact hfin.out
      · have hc := Lib.hid (cR.out hq.out hr.out hs.out)
        clear cF cR cL cI cC
        have k6 := Lib.hid (prec_any B G tv ts en ov d e kE at_ w5 nvr _ hx5)
        go_wp2_with fail
        refine k6.out.mono ?_
        rintro e6 w6 ⟨a6, nv6, rfl, hp6, hs6, hv6⟩
        have hfin : Hid (PqN B G tv ts en ov d w nv T (.returned (.int .i64 a6)) w6) := Lib.hid (by
          rw [hc.out] at hp6 hv6
          exact ⟨a6, nv6, rfl, hp6, hS5.out.trans hs6, hv6⟩)
        clear k6 hp6 hs6 hv6
        go_wp2_with fail
        go_ret
        exact hfin.out
  · have hc := Lib.hid (cF.out hq.out)
    clear cF cR cL cI cC
    have k6 := Lib.hid (function_any B G tv ts en ov d e kE at_ w3 nvr _ hx3)
    go_wp2_with fail
    refine k6.out.mono ?_
    rintro e6 w6 ⟨a6, nv6, rfl, hp6, hs6, hv6⟩
    have hfin : Hid (PqN B G tv ts en ov d w nv T (.returned (.int .i64 a6)) w6) := Lib.hid (by
      rw [hc.out] at hp6 hv6
      exact ⟨a6, nv6, rfl, hp6, hS3.out.trans hs6, hv6⟩)
    clear k6 hp6 hs6 hv6
    go_wp2_with fail
    go_ret
    exact hfin.out
theorem open_ex {B G : Nat} {tv : Value} {ts : List Tk} {en : Int} {ov : Value} {d : Int} {e : PS → Except PE (Nat × PS)} (he : Mono ts e) (kE : Hid (ExC B G tv ts en ov 54 d e)) : ExC B G tv ts en ov 85 d (openP ts en e) := fun w nv R h => popen_any B G tv ts en ov d e he kE w nv R (Lib.hid h)
/-- an expression, at every depth. -/
theorem expr_at (B G : Nat) (tv : Value) (ts : List Tk) (en : Int) (ov : Value) : ∀ (r : Nat), r ≤ 40 → ExC B G tv ts en ov 54 (40 - (r : Int)) (exprP ts en r)
  | 0, _ => by simpa using expr_deep B G tv ts en ov
  | r + 1, hr => by
    have ih := expr_at B G tv ts en ov r (by omega)
    have e1 : (40 : Int) - (r : Nat) = (40 - ((r + 1 : Nat) : Int)) + 1 := by omega
    rw [e1] at ih
    exact expr_ex (Lib.hid (open_ex (exprP_fwd r) (Lib.hid ih))) (by omega) (by omega)
theorem pexpr_any (B G : Nat) (tv : Value) (ts : List Tk) (en : Int) (ov : Value) (w : World) (nv : Value) (R : Except PE PS) (h : Hid (PqX B G tv ts en ov 0 w nv R)) :
    Calls Tryz.prog 54 #[.pointer (some ⟨G, 0, none⟩)] w (PqN B G tv ts en ov 0 w nv (R >>= exprP ts en 40)) := by
  have k := expr_at B G tv ts en ov 40 (by omega)
  simp only [show (40 : Int) - (40 : Nat) = 0 from rfl] at k
  exact k w nv R h.out
end Go.Proofs.YtidlljookjicpaaGreatDoor

/- The program's parser: the row of operations. -/
/- The program's parser: the row of operations. -/
namespace Go.Proofs.YtidlljookjicpaaGreatDoor
open Go.RowKit
set_option linter.unusedVariables false
set_option linter.unusedSimpArgs false

theorem run_appO2 {W : World} (B : Nat) (hB : B ≤ W.heap.size) (ty : TypeId) (v : Value) (l : List Or) (hown : OwnO B W v l) (ad : Addr) (m c : Nat) (ys : List Or) (hm : m = ys.length) (hnews : ∀ j u, (orL ys)[j]? = some u → W.cell? (ad.add j) = some u) (hlen : l.length + ys.length ≤ 1000000) :
    ∃ v' w', (Builtin.append_ #[22, 22] ty #[v, .slice (some ad) m c]).run Tryz.prog W = .ok v' w' ∧ OwnO B w' v' (l ++ ys) ∧ Bar (fun k => v.ownBlock = some k) W w' ∧ (∀ g, v'.ownBlock = some g → v.ownBlock = some g ∨ W.heap.size ≤ g) := by
  subst hm
  obtain ⟨i0, hi, hz0, hz1, hz2⟩ := info_parts infoOr
  obtain ⟨v', w', hr, h1, h2, h3⟩ := run_append_own (P := Tryz.prog) (w := W) B 22 ty 48 i0 (.agg #[.string ByteArray.empty, .int .i64 0, .int .i64 0]) 3 32 Tryz.underlying22 hi hz0 hz1 hz2 rfl (by decide) v l.length (orL l) hown ad ys.length c (orL ys) (orL_len ys) hnews (orL_one ys) (by unfold maxLen; omega) (by omega) hB
  have h1' : OwnO B w' v' (l ++ ys) := by unfold OwnO; rw [orL_app, List.length_append]; exact h1
  have hbar : Bar (fun k => v.ownBlock = some k) W w' := ⟨h2.os, h2.tape, h2.output, h2.size, fun k hk hn => h2.block k hk (fun e => hn e.symm)⟩
  refine ⟨v', w', hr, h1', hbar, ?_⟩
  rcases hown.2 with ⟨e1, e0⟩ | ⟨g, cap, cur, e1, hBg, hg, hc, hcm, hcs, htk⟩
  · have hl0 : l = [] := List.eq_nil_of_length_eq_zero e0
    subst hl0; subst e1
    intro k hk
    by_cases h0 : ys.length = 0
    · have := h3.2 ⟨rfl, h0⟩; rw [this] at hk; cases hk
    · have hr2 := run_append_nil (P := Tryz.prog) W 22 ty 48 i0 (.agg #[.string ByteArray.empty, .int .i64 0, .int .i64 0]) Tryz.underlying22 hi hz0 ad ys.length c (orL ys) (by rw [orL_len, hz1]) hnews (by omega) (by omega) (by rw [hz2]; omega)
      rw [hr] at hr2
      injection hr2 with e1 e2
      subst e1
      have hk : W.heap.size = k := Option.some.inj hk
      exact .inr (by omega)
  · subst e1
    by_cases hroom : l.length + ys.length ≤ cap
    · have hfit : l.length * i0.size + (orL ys).length ≤ cur.size := by
        rw [hz1, hcs, orL_len]
        have := Nat.mul_le_mul_right 3 hroom
        rw [Nat.add_mul] at this; omega
      have hr2 := run_append_room (P := Tryz.prog) W 22 ty 48 i0 Tryz.underlying22 hi g l.length cap cur hg ad ys.length c (orL ys) (by rw [orL_len, hz1]) hnews (orL_one ys) hroom hfit
      rw [hr] at hr2
      injection hr2 with e1 e2
      intro k hk
      exact .inl (by rw [e1] at hk; exact hk)
    · have hr2 := run_append_grow (P := Tryz.prog) W 22 ty 48 i0 (.agg #[.string ByteArray.empty, .int .i64 0, .int .i64 0]) Tryz.underlying22 hi hz0 ⟨g, 0, none⟩ l.length cap (orL l) (by rw [orL_len, hz1]) (fun j u hj => World.ownsRow.cells (show W.ownsRow B 48 3 (.slice (some ⟨g, 0, none⟩) l.length cap) l.length (orL l) from hown) rfl j u hj) ad ys.length c (orL ys) (by rw [orL_len, hz1]) hnews (by omega) (by omega) (by rw [hz2]; exact growslice_fits (by omega) (by omega))
      rw [hr] at hr2
      injection hr2 with e1 e2
      have hob : v'.ownBlock = some W.heap.size := by rw [e1]; rfl
      intro k hk
      exact .inr (by rw [hob] at hk; injection hk with hk; omega)
/-- an append of operations that lie in the block that was made last, told by the blocks that stay. -/
theorem op_orr {ops : Array Oper} {rest : List Oper} {o : Oper} {a : Act} {Q : Exit → Act → World → Prop} (hgd : o.guard = none) (s x : Operand) (W : World) (B : Nat) (hB : B ≤ W.heap.size) (ov : Value) (l ys : List Or) (arr : Array Value)
    (ho : o.op = .call { callee := .builtin .append, args := #[s, x], argTypes := #[22, 22] })
    (hs : a.eval s = ov) (m : Nat) (hm : m = ys.length) (hx : a.eval x = .slice (some ⟨W.heap.size, 0, none⟩) m m) (harr : arr.toList = orL ys) (hown : OwnO B W ov l) (hlen : l.length + ys.length ≤ 1000000)
    (h : ∀ v' w', OwnO B w' v' (l ++ ys) → Bar (fun k => ov.ownBlock = some k) W w' → (∀ g, v'.ownBlock = some g → ov.ownBlock = some g ∨ W.heap.size ≤ g) → wpList Tryz.prog ops Q rest (a.put o.dst v') w') :
    wpList Tryz.prog ops Q (o :: rest) a (W.alloc (.cells arr 48)) := by
  subst hm
  refine wpList_plain hgd fun K hK => ?_
  obtain ⟨v', w', hr, h1, h2, h3⟩ := run_appO2 (W := W.alloc (.cells arr 48)) B (by simp; omega) o.type ov l (hown.below (below_alc W _)) ⟨W.heap.size, 0, none⟩ ys.length ys.length ys rfl (fun j u hj => by
    have e : (⟨W.heap.size, 0, none⟩ : Addr).add j = ⟨W.heap.size, j, none⟩ := by simp [Addr.add]; try omega
    rw [e, World.cell?_alloc_at _ _ _ _ rfl, ← hj, ← harr, Array.getElem?_toList]) hlen
  unfold Oper.wp execOp
  simp only [ho, resolve, invoke, builtin, Sem.run_bind, Sem.run_pure, Result.andThen_ok, List.map_toArray, List.map_cons, List.map_nil, hs, hx, hr]
  refine hK _ _ (h v' w' h1 ?_ fun g hg => ?_)
  · have hsz := h2.size
    simp at hsz
    exact ⟨h2.os, h2.tape, h2.output, by omega, fun k hk hn => (h2.block k (by simp; omega) hn).trans (Below.heap_alloc W _ k (by omega))⟩
  · rcases h3 g hg with h | h
    · exact .inl h
    · exact .inr (by simp at h; omega)
theorem owno_sl {B : Nat} {w : World} {v : Value} {l : List Or} (h : OwnO B w v l) : ∃ a c, v = .slice a l.length c := by
  rcases h.cases with ⟨rfl, rfl⟩ | ⟨g, c, rfl, _⟩
  · exact ⟨none, 0, rfl⟩
  · exact ⟨_, c, rfl⟩
theorem owno_lt {B : Nat} {w : World} {v : Value} {l : List Or} (h : OwnO B w v l) : ∀ k, v.ownBlock = some k → B ≤ k ∧ k < w.heap.size := by
  intro k hk
  rcases h.cases with ⟨rfl, _⟩ | ⟨g, c, rfl, h1, h2, _⟩
  · cases hk
  · have hk : g = k := Option.some.inj hk
    omega
/-- a row of operations that was put behind another; there is no node yet. -/
theorem PqW.setO {B G : Nat} {tv : Value} {ts : List Tk} {en : Int} {ov : Value} {d : Int} {w w2 : World} {nv ov' : Value} {st : PS} {ev : Value} (h : PqW B G tv ts en ov d w nv st ev) (hnn : nv.ownBlock = none) (hB : ∀ k, ov.ownBlock = some k → B ≤ k) (hb : Bar (fun k => ov.ownBlock = some k) w w2) (hl : ∀ k, ov'.ownBlock = some k → k < w2.heap.size) :
    PqW B G tv ts en ov' d (w2.setCell ⟨G, 4, none⟩ ov') nv st ev ∧ Bar (fun k => k = G ∨ ov.ownBlock = some k) w (w2.setCell ⟨G, 4, none⟩ ov') := by
  have ne : ∀ a b : Nat, a ≠ b → (⟨G, a, none⟩ : Addr) ≠ ⟨G, b, none⟩ := fun a b hab e => by injection e with _ e2 _; exact hab e2
  have hGn : ¬ ov.ownBlock = some G := fun e => by have := hB G e; have := h.gB; omega
  have hb2 : Bar (fun k => k = G) w2 (w2.setCell ⟨G, 4, none⟩ ov') := Bar.set (S := fun k => k = G) ⟨G, 4, none⟩ _ rfl
  have hsz := hb.size
  refine ⟨⟨Go.Proofs.YtidlljookjicpaaGreatDoor.setO (hb.cell h.t hGn) (ne _ _ (by decide)), Go.Proofs.YtidlljookjicpaaGreatDoor.setO (hb.cell h.e hGn) (ne _ _ (by decide)), Go.Proofs.YtidlljookjicpaaGreatDoor.setO (hb.cell h.i hGn) (ne _ _ (by decide)), Go.Proofs.YtidlljookjicpaaGreatDoor.setO (hb.cell h.d hGn) (ne _ _ (by decide)), setS (hb.cell h.o hGn), Go.Proofs.YtidlljookjicpaaGreatDoor.setO (hb.cell h.n hGn) (ne _ _ (by decide)), Go.Proofs.YtidlljookjicpaaGreatDoor.setO (hb.cell h.r hGn) (ne _ _ (by decide)), h.gB, by have := h.bl; simp; omega, fun o => ?_, (h.tk.bar hb (fun k hk _ e => by have := hB k e; omega)).bar hb2 (fun k _ hk => hk), Bar.own hb2 (Bar.own hb h.own (fun k hk => by rw [hnn] at hk; cases hk)) (fun k hk => by rw [hnn] at hk; cases hk), h.il, h.nl, h.tl, fun k hk => by have := hl k hk; simpa using this⟩, ?_⟩
  · simp only [World.frozen?_setCell]
    rw [hb.frozen (a := ⟨G, o, none⟩) (by have := h.gB; have := h.bl; show G < _; omega) hGn]; exact h.fg o
  · exact (Bar.trans (S := fun k => k = G ∨ ov.ownBlock = some k) ((Bar.refl _ _).trans hb fun _ _ hs => .inr hs) hb2 fun _ _ hs => .inl hs)
theorem PqX.setO {B G : Nat} {tv : Value} {ts : List Tk} {en : Int} {ov : Value} {d : Int} {w w2 : World} {nv ov' : Value} {R : Except PE PS} (h : PqX B G tv ts en ov d w nv R) (hnn : nv.ownBlock = none) (hB : ∀ k, ov.ownBlock = some k → B ≤ k) (hb : Bar (fun k => ov.ownBlock = some k) w w2) (hl : ∀ k, ov'.ownBlock = some k → k < w2.heap.size) (hh : ∀ g, ov'.ownBlock = some g → ov.ownBlock = some g ∨ w.heap.size ≤ g) :
    PqX B G tv ts en ov' d (w2.setCell ⟨G, 4, none⟩ ov') nv R ∧ Bar (fun k => k = G ∨ ov.ownBlock = some k) w (w2.setCell ⟨G, 4, none⟩ ov') := by
  cases R with
  | ok st => exact PqW.setO h hnn hB hb hl
  | error e =>
    obtain ⟨st, ev, h1, F, v, h2, h3, h4, h5, h6, h7, h8, h9, h10⟩ := h
    obtain ⟨k1, k2⟩ := h1.setO hnn hB hb hl
    refine ⟨⟨st, ev, k1, F, v, h2, by have := k2.size; omega, h4, h5, fun hc => ?_, k2.cell h7 ?_, k2.cell h8 ?_, h9, h10.bar k2 ?_⟩, k2⟩
    · rcases hh F hc with hc | hc
      · exact h6 hc
      · omega
    all_goals (rintro (hs | hs); exact h4 hs; exact h6 hs)
/-- an operation, behind 'op'. -/
def declQ (ts : List Tk) (en : Int) (st : PS) : Except PE (Or × PS) := do
  let (o, st) ← nameP ts en st
  let st ← wantP ts en sgColon st
  let (a, st) ← baseP ts en st
  let st ← wantP ts en sgArrow st
  let (b, st) ← baseP ts en st
  let st ← wantP ts en sgSemi st
  .ok (⟨o, a, b⟩, st)
theorem decl_chain {ts : List Tk} {en : Int} {R : Except PE PS} {x : ByteArray} {a b : Int} (hv1 : ∀ y st', (R >>= nameP ts en) = .ok (y, st') → x = y) (hv2 : ∀ y st', ((stX (R >>= nameP ts en) >>= wantP ts en sgColon) >>= baseP ts en) = .ok (y, st') → a = y) (hv3 : ∀ y st', ((stX ((stX (R >>= nameP ts en) >>= wantP ts en sgColon) >>= baseP ts en) >>= wantP ts en sgArrow) >>= baseP ts en) = .ok (y, st') → b = y) :
    (stX ((stX ((stX (R >>= nameP ts en) >>= wantP ts en sgColon) >>= baseP ts en) >>= wantP ts en sgArrow) >>= baseP ts en) >>= wantP ts en sgSemi) = stX (R >>= declQ ts en) ∧ ∀ o st', (R >>= declQ ts en) = .ok (o, st') → (⟨x, a, b⟩ : Or) = o := by
  rcases R with _ | st
  · exact ⟨rfl, fun o st' hc => by cases hc⟩
  simp only [bind, Except.bind, stX] at hv1 hv2 hv3 ⊢
  simp only [declQ, bind, Except.bind]
  rcases h1 : nameP ts en st with _ | ⟨y1, s1⟩
  · exact ⟨by simp only [h1], fun o st' hc => by simp only [h1] at hc; cases hc⟩
  simp only [h1] at hv1 hv2 hv3 ⊢
  obtain rfl := hv1 _ _ rfl
  rcases h2 : wantP ts en sgColon s1 with _ | s2
  · exact ⟨by simp only [h2], fun o st' hc => by simp only [h2] at hc; cases hc⟩
  simp only [h2] at hv2 hv3 ⊢
  rcases h3 : baseP ts en s2 with _ | ⟨y3, s3⟩
  · exact ⟨by simp only [h3], fun o st' hc => by simp only [h3] at hc; cases hc⟩
  simp only [h3] at hv2 hv3 ⊢
  obtain rfl := hv2 _ _ rfl
  rcases h4 : wantP ts en sgArrow s3 with _ | s4
  · exact ⟨by simp only [h4], fun o st' hc => by simp only [h4] at hc; cases hc⟩
  simp only [h4] at hv3 ⊢
  rcases h5 : baseP ts en s4 with _ | ⟨y5, s5⟩
  · exact ⟨by simp only [h5], fun o st' hc => by simp only [h5] at hc; cases hc⟩
  simp only [h5] at hv3 ⊢
  obtain rfl := hv3 _ _ rfl
  rcases h6 : wantP ts en sgSemi s5 with _ | s6
  · exact ⟨by simp only [h6], fun o st' hc => by simp only [h6] at hc; cases hc⟩
  simp only [h6]
  exact ⟨trivial, fun o st' hc => by injection hc with hc; injection hc⟩
theorem decl_lt {ts : List Tk} {en : Int} {R : Except PE PS} {os : List Or} (h : isX ts R kwOp = true) (hl : os.length < 4) : (R >>= declP ts en os) = ((takeX ts R kwOp >>= declQ ts en) >>= fun p => .ok (os ++ [p.1], p.2)) := by
  obtain ⟨st, rfl, hi, hx⟩ := isX_ok h
  rw [hx]
  show declP ts en os st = (declQ ts en ⟨st.i + 1, st.ns⟩ >>= _)
  unfold declP declQ
  rw [if_neg (by omega)]
  simp only [bind, Except.bind]
  rcases h1 : nameP ts en ⟨st.i + 1, st.ns⟩ with _ | ⟨y1, s1⟩
  · simp only [h1]
  simp only [h1]
  rcases h2 : wantP ts en sgColon s1 with _ | s2
  · simp only [h2]
  simp only [h2]
  rcases h3 : baseP ts en s2 with _ | ⟨y3, s3⟩
  · simp only [h3]
  simp only [h3]
  rcases h4 : wantP ts en sgArrow s3 with _ | s4
  · simp only [h4]
  simp only [h4]
  rcases h5 : baseP ts en s4 with _ | ⟨y5, s5⟩
  · simp only [h5]
  simp only [h5]
  rcases h6 : wantP ts en sgSemi s5 with _ | s6
  · simp only [h6]
  simp only [h6]
theorem decl_ge {ts : List Tk} {en : Int} {R : Except PE PS} {os : List Or} (h : isX ts R kwOp = true) (hl : 4 ≤ os.length) : ∃ e, failX ts en R 402 = .error e ∧ (R >>= declP ts en os) = .error e := by
  obtain ⟨st, rfl, hi, hx⟩ := isX_ok h
  refine ⟨(402, hereP ts en st.i), rfl, ?_⟩
  show declP ts en os st = _
  unfold declP
  rw [if_pos hl]
/-- what the calls of an operation come to: a state, and what is put if it is no error. -/
theorem decl_all {ts : List Tk} {en : Int} {R R0 : Except PE PS} {os : List Or} (h : isX ts R kwOp = true) (h0 : R0 = if os.length = 4 then failX ts en R 402 else R) (hl : os.length ≤ 4) {x : ByteArray} {a b : Int} (hv1 : ∀ y st', ((R0 >>= wantP ts en kwOp) >>= nameP ts en) = .ok (y, st') → x = y) (hv2 : ∀ y st', ((stX ((R0 >>= wantP ts en kwOp) >>= nameP ts en) >>= wantP ts en sgColon) >>= baseP ts en) = .ok (y, st') → a = y) (hv3 : ∀ y st', ((stX ((stX ((R0 >>= wantP ts en kwOp) >>= nameP ts en) >>= wantP ts en sgColon) >>= baseP ts en) >>= wantP ts en sgArrow) >>= baseP ts en) = .ok (y, st') → b = y) :
    (stX ((stX ((stX ((R0 >>= wantP ts en kwOp) >>= nameP ts en) >>= wantP ts en sgColon) >>= baseP ts en) >>= wantP ts en sgArrow) >>= baseP ts en) >>= wantP ts en sgSemi) = stX (R >>= declP ts en os) ∧ ∀ l st', (R >>= declP ts en os) = .ok (l, st') → os ++ [⟨x, a, b⟩] = l := by
  by_cases h4 : os.length = 4
  · rw [if_pos h4] at h0
    obtain ⟨e, he1, he2⟩ := decl_ge (en := en) h (Nat.le_of_eq h4.symm)
    rw [h0, he1, he2]
    exact ⟨rfl, fun l st' hc => by cases hc⟩
  · rw [if_neg h4] at h0
    obtain ⟨k1, k2⟩ := decl_chain hv1 hv2 hv3
    subst h0
    rw [decl_lt h (by omega)]
    rw [want_yes h] at k1 k2 ⊢
    refine ⟨k1.trans ?_, ?_⟩
    · rcases (takeX ts R0 kwOp >>= declQ ts en) with _ | ⟨o, s⟩ <;> rfl
    · intro l st' hc
      obtain ⟨⟨o, s⟩, hd, hc⟩ := ex_ok.1 hc
      rw [k2 _ _ hd]
      injection hc with hc
      injection hc
end Go.Proofs.YtidlljookjicpaaGreatDoor

/- The program's parser: an operation, declared. -/
namespace Go.Proofs.YtidlljookjicpaaGreatDoor
open Go.RowKit
set_option linter.unusedVariables false
set_option linter.unusedSimpArgs false

/-- an operation more, or an error. -/
def PqO (B G : Nat) (tv : Value) (ts : List Tk) (en : Int) (ov : Value) (d : Int) (w : World) (nv : Value) (os : List Or) (R : Except PE (List Or × PS)) (e : Ending) (w' : World) : Prop := ∃ ov' os', e = .returned (.tuple #[]) ∧ PqX B G tv ts en ov' d w' nv (stX R) ∧ OwnO B w' ov' os' ∧ Bar (fun k => k = G ∨ ov.ownBlock = some k) w w' ∧ os'.length = os.length + 1 ∧ ∀ l st', R = .ok (l, st') → os' = l
set_option maxRecDepth 100000 in
set_option maxHeartbeats 8000000 in
theorem operation_any (B G : Nat) (tv : Value) (ts : List Tk) (en : Int) (ov : Value) (d : Int) (w : World) (nv : Value) (os : List Or) (R : Except PE PS) (hnn : nv.ownBlock = none) (ho : Hid (OwnO B w ov os)) (hl : os.length ≤ 4) (hop : isX ts R kwOp = true) (h : Hid (PqX B G tv ts en ov d w nv R)) :
    Calls Tryz.prog 53 #[.pointer (some ⟨G, 0, none⟩)] w (PqO B G tv ts en ov d w nv os (R >>= declP ts en os)) := by
  obtain ⟨a, c, rfl⟩ := owno_sl ho.out
  obtain ⟨st, ev, h1, _⟩ := h.out.sl
  have hc := h1.o
  have hgl : G < w.heap.size := by have := h1.gB; have := h1.bl; omega
  clear h1
  have hop := Lib.hid hop
  have hnn := Lib.hid hnn
  have hl := Lib.hid hl
  go_enter Tryz.func53, Tryz.ntmps53
  by_cases h4 : os.length = 4
  · rw [h4] at hc
    have h40 := Lib.hid (show failX ts en R 402 = if os.length = 4 then failX ts en R 402 else R from (if_pos h4).symm)
    have k0 := Lib.hid (pfail_any B G tv ts en _ d w nv R 402 27 (.int .i64 402) (.inr ⟨by decide, rfl⟩) h)
    clear h4
    go_wp2_with fail
    refine k0.out.mono ?_
    rintro e0 w0 ⟨rfl, hp0, hb0⟩
    have hx0 := Lib.hid hp0
    have hB0 := Lib.hid hb0
    clear k0 hb0 hp0 hc hgl
    have k1 := Lib.hid (take_any B G tv ts en _ d w0 nv _ kwOp hx0)
    go_wp2_with fail
    refine k1.out.mono ?_
    rintro e1 w1 ⟨rfl, hp1, hb1⟩
    have hx1 := Lib.hid hp1
    have hB1 := Lib.hid (hB0.out.trans hb1 fun _ _ hs => hs)
    clear k1 hb1 hp1 hx0 hB0
    have k2 := Lib.hid (pname_any B G tv ts en _ d w1 nv _ hx1)
    go_wp2_with fail
    refine k2.out.mono ?_
    rintro e2 w2 ⟨x, rfl, ⟨hp2, hb2⟩, hy1⟩
    have hv1 := Lib.hid hy1
    clear hy1
    have hx2 := Lib.hid hp2
    have hB2 := Lib.hid (hB1.out.trans hb2 fun _ _ hs => hs)
    clear k2 hb2 hp2 hx1 hB1
    have k3 := Lib.hid (take_any B G tv ts en _ d w2 nv _ sgColon hx2)
    go_wp2_with fail
    refine k3.out.mono ?_
    rintro e3 w3 ⟨rfl, hp3, hb3⟩
    have hx3 := Lib.hid hp3
    have hB3 := Lib.hid (hB2.out.trans hb3 fun _ _ hs => hs)
    clear k3 hb3 hp3 hx2 hB2
    have k4 := Lib.hid (base_any B G tv ts en _ d w3 nv _ hx3)
    go_wp2_with fail
    refine k4.out.mono ?_
    rintro e4 w4 ⟨fa, rfl, ⟨hp4, hb4⟩, hy⟩
    have hv2 := Lib.hid hy
    clear hy
    have hx4 := Lib.hid hp4
    have hB4 := Lib.hid (hB3.out.trans hb4 fun _ _ hs => hs)
    clear k4 hb4 hp4 hx3 hB3
    have k5 := Lib.hid (take_any B G tv ts en _ d w4 nv _ sgArrow hx4)
    go_wp2_with fail
    refine k5.out.mono ?_
    rintro e5 w5 ⟨rfl, hp5, hb5⟩
    have hx5 := Lib.hid hp5
    have hB5 := Lib.hid (hB4.out.trans hb5 fun _ _ hs => hs)
    clear k5 hb5 hp5 hx4 hB4
    have k6 := Lib.hid (base_any B G tv ts en _ d w5 nv _ hx5)
    go_wp2_with fail
    refine k6.out.mono ?_
    rintro e6 w6 ⟨fb, rfl, ⟨hp6, hb6⟩, hy⟩
    have hv3 := Lib.hid hy
    clear hy
    have hx6 := Lib.hid hp6
    have hB6 := Lib.hid (hB5.out.trans hb6 fun _ _ hs => hs)
    clear k6 hb6 hp6 hx5 hB5
    have k7 := Lib.hid (take_any B G tv ts en _ d w6 nv _ sgSemi hx6)
    go_wp2_with fail
    refine k7.out.mono ?_
    rintro e7 w7 ⟨rfl, hp7, hb7⟩
    have hx7 := Lib.hid hp7
    have hB7 := Lib.hid (hB6.out.trans hb7 fun _ _ hs => hs)
    clear k7 hb7 hp7 hx6 hB6
    have hall := Lib.hid (decl_all (en := en) hop.out h40.out hl.out hv1.out hv2.out hv3.out)
    rw [hall.out.1] at hx7
    clear hv1 hv2 hv3
    obtain ⟨st7, ev7, h8, _⟩ := hx7.out.sl
    have hc := h8.o
    have hfr := h8.fg
    have hgW : G < w7.heap.size := by have := h8.gB; have := h8.bl; omega
    have hBW : B ≤ w7.heap.size := h8.bl
    have hnG : ¬ (Value.slice a os.length c).ownBlock = some G := fun e => by have := (owno_lt ho.out G e).1; have := h8.gB; omega
    have hown := Lib.hid (show OwnO B w7 (.slice a os.length c) os from Bar.own hB7.out ho.out fun k hk e => hnG (by rw [← e]; exact hk))
    have hq : Hid (os.length + [(⟨x, fa, fb⟩ : Or)].length ≤ 1000000) := Lib.hid (by have := hl.out; simp; omega)
    clear h8
    go_wp2_with (at_builtin; refine op_orr rfl (.tmp 32) (.tmp 37) w7 B hBW (.slice a os.length c) os [⟨x, fa, fb⟩] _ rfl rfl 1 rfl rfl rfl hown.out hq.out ?_; intro v' w8 hown8 hb8 hop8; obtain ⟨a8, c8, rfl⟩ := owno_sl hown8; have hc8 : w8.cell? ⟨G, 4, none⟩ = some (.slice a os.length c) := hb8.cell hc hnG; have hgw8 : G < w8.heap.size := Nat.lt_of_lt_of_le hgW hb8.size; have hf8 : w8.frozen? ⟨G, 4, none⟩ = false := (hb8.frozen (a := ⟨G, 4, none⟩) hgW hnG).trans (hfr 4); rw [List.length_append, List.length_singleton] at hown8 hop8; have hown8 := Lib.hid hown8; have hb8' := Lib.hid hb8; have hop8 := Lib.hid hop8; clear hb8)
    obtain ⟨k1, k2⟩ := hx7.out.setO hnn.out (fun k hk => (owno_lt ho.out k hk).1) hb8'.out (fun k hk => (owno_lt hown8.out k hk).2) hop8.out
    have hfin : Hid (PqO B G tv ts en (.slice a os.length c) d w nv os (R >>= declP ts en os) (.returned (.tuple #[])) (w8.setCell ⟨G, 4, none⟩ (.slice a8 (os.length + 1) c8))) := Lib.hid ⟨_, _, rfl, k1, Bar.own (S := fun k => k = G) (Bar.set ⟨G, 4, none⟩ _ rfl) hown8.out (fun k hk (e : k = G) => by have := (owno_lt hown8.out k hk).1; have := hx7.out.lt.1; omega), (Bar.trans (S := fun k => k = G ∨ (Value.slice a os.length c).ownBlock = some k) ((Bar.refl _ _).trans hB7.out fun _ _ hs => .inl hs) k2 fun _ _ hs => hs), by simp, hall.out.2⟩
    clear k1 k2 hown8 hb8' hop8 hc hfr hgW hBW hnG hown hall hx7 hB7
    go_wp2_with fail
    go_end0
    exact hfin.out
  · have e0 : ((os.length : Int) == 4) = false := beq_eq_false_iff_ne.2 (by omega)
    have h40 := Lib.hid (show R = if os.length = 4 then failX ts en R 402 else R from (if_neg h4).symm)
    clear h4
    have hx0 := Lib.hid h.out
    have hB0 := Lib.hid (Bar.refl (fun k => k = G) w)
    have k1 := Lib.hid (take_any B G tv ts en _ d w nv _ kwOp hx0)
    go_wp2_with fail
    clear hc hgl
    refine k1.out.mono ?_
    rintro e1 w1 ⟨rfl, hp1, hb1⟩
    have hx1 := Lib.hid hp1
    have hB1 := Lib.hid (hB0.out.trans hb1 fun _ _ hs => hs)
    clear k1 hb1 hp1 hx0 hB0
    have k2 := Lib.hid (pname_any B G tv ts en _ d w1 nv _ hx1)
    go_wp2_with fail
    refine k2.out.mono ?_
    rintro e2 w2 ⟨x, rfl, ⟨hp2, hb2⟩, hy1⟩
    have hv1 := Lib.hid hy1
    clear hy1
    have hx2 := Lib.hid hp2
    have hB2 := Lib.hid (hB1.out.trans hb2 fun _ _ hs => hs)
    clear k2 hb2 hp2 hx1 hB1
    have k3 := Lib.hid (take_any B G tv ts en _ d w2 nv _ sgColon hx2)
    go_wp2_with fail
    refine k3.out.mono ?_
    rintro e3 w3 ⟨rfl, hp3, hb3⟩
    have hx3 := Lib.hid hp3
    have hB3 := Lib.hid (hB2.out.trans hb3 fun _ _ hs => hs)
    clear k3 hb3 hp3 hx2 hB2
    have k4 := Lib.hid (base_any B G tv ts en _ d w3 nv _ hx3)
    go_wp2_with fail
    refine k4.out.mono ?_
    rintro e4 w4 ⟨fa, rfl, ⟨hp4, hb4⟩, hy⟩
    have hv2 := Lib.hid hy
    clear hy
    have hx4 := Lib.hid hp4
    have hB4 := Lib.hid (hB3.out.trans hb4 fun _ _ hs => hs)
    clear k4 hb4 hp4 hx3 hB3
    have k5 := Lib.hid (take_any B G tv ts en _ d w4 nv _ sgArrow hx4)
    go_wp2_with fail
    refine k5.out.mono ?_
    rintro e5 w5 ⟨rfl, hp5, hb5⟩
    have hx5 := Lib.hid hp5
    have hB5 := Lib.hid (hB4.out.trans hb5 fun _ _ hs => hs)
    clear k5 hb5 hp5 hx4 hB4
    have k6 := Lib.hid (base_any B G tv ts en _ d w5 nv _ hx5)
    go_wp2_with fail
    refine k6.out.mono ?_
    rintro e6 w6 ⟨fb, rfl, ⟨hp6, hb6⟩, hy⟩
    have hv3 := Lib.hid hy
    clear hy
    have hx6 := Lib.hid hp6
    have hB6 := Lib.hid (hB5.out.trans hb6 fun _ _ hs => hs)
    clear k6 hb6 hp6 hx5 hB5
    have k7 := Lib.hid (take_any B G tv ts en _ d w6 nv _ sgSemi hx6)
    go_wp2_with fail
    refine k7.out.mono ?_
    rintro e7 w7 ⟨rfl, hp7, hb7⟩
    have hx7 := Lib.hid hp7
    have hB7 := Lib.hid (hB6.out.trans hb7 fun _ _ hs => hs)
    clear k7 hb7 hp7 hx6 hB6
    have hall := Lib.hid (decl_all (en := en) hop.out h40.out hl.out hv1.out hv2.out hv3.out)
    rw [hall.out.1] at hx7
    clear hv1 hv2 hv3
    obtain ⟨st7, ev7, h8, _⟩ := hx7.out.sl
    have hc := h8.o
    have hfr := h8.fg
    have hgW : G < w7.heap.size := by have := h8.gB; have := h8.bl; omega
    have hBW : B ≤ w7.heap.size := h8.bl
    have hnG : ¬ (Value.slice a os.length c).ownBlock = some G := fun e => by have := (owno_lt ho.out G e).1; have := h8.gB; omega
    have hown := Lib.hid (show OwnO B w7 (.slice a os.length c) os from Bar.own hB7.out ho.out fun k hk e => hnG (by rw [← e]; exact hk))
    have hq : Hid (os.length + [(⟨x, fa, fb⟩ : Or)].length ≤ 1000000) := Lib.hid (by have := hl.out; simp; omega)
    clear h8
    go_wp2_with (at_builtin; refine op_orr rfl (.tmp 32) (.tmp 37) w7 B hBW (.slice a os.length c) os [⟨x, fa, fb⟩] _ rfl rfl 1 rfl rfl rfl hown.out hq.out ?_; intro v' w8 hown8 hb8 hop8; obtain ⟨a8, c8, rfl⟩ := owno_sl hown8; have hc8 : w8.cell? ⟨G, 4, none⟩ = some (.slice a os.length c) := hb8.cell hc hnG; have hgw8 : G < w8.heap.size := Nat.lt_of_lt_of_le hgW hb8.size; have hf8 : w8.frozen? ⟨G, 4, none⟩ = false := (hb8.frozen (a := ⟨G, 4, none⟩) hgW hnG).trans (hfr 4); rw [List.length_append, List.length_singleton] at hown8 hop8; have hown8 := Lib.hid hown8; have hb8' := Lib.hid hb8; have hop8 := Lib.hid hop8; clear hb8)
    obtain ⟨k1, k2⟩ := hx7.out.setO hnn.out (fun k hk => (owno_lt ho.out k hk).1) hb8'.out (fun k hk => (owno_lt hown8.out k hk).2) hop8.out
    have hfin : Hid (PqO B G tv ts en (.slice a os.length c) d w nv os (R >>= declP ts en os) (.returned (.tuple #[])) (w8.setCell ⟨G, 4, none⟩ (.slice a8 (os.length + 1) c8))) := Lib.hid ⟨_, _, rfl, k1, Bar.own (S := fun k => k = G) (Bar.set ⟨G, 4, none⟩ _ rfl) hown8.out (fun k hk (e : k = G) => by have := (owno_lt hown8.out k hk).1; have := hx7.out.lt.1; omega), (Bar.trans (S := fun k => k = G ∨ (Value.slice a os.length c).ownBlock = some k) ((Bar.refl _ _).trans hB7.out fun _ _ hs => .inl hs) k2 fun _ _ hs => hs), by simp, hall.out.2⟩
    clear k1 k2 hown8 hb8' hop8 hc hfr hgW hBW hnG hown hall hx7 hB7
    go_wp2_with fail
    go_end0
    exact hfin.out
end Go.Proofs.YtidlljookjicpaaGreatDoor

/- The program's parser: a whole program. -/
namespace Go.Proofs.YtidlljookjicpaaGreatDoor
open Go.RowKit
set_option linter.unusedVariables false
set_option linter.unusedSimpArgs false

/-- where the loop over operations is: T is what it comes to. -/
structure OpI (B G : Nat) (tv : Value) (ts : List Tk) (en : Int) (w : World) (T : Except PE (List Or × PS)) (k : Nat) (wr : World) (ov : Value) (os : List Or) (R : Except PE PS) : Prop where
  x : PqX B G tv ts en ov 0 wr (.slice none 0 0) R
  o : OwnO B wr ov os
  b : Bar (fun k => k = G) w wr
  l : os.length ≤ 5
  r : ∀ st, R = .ok st → os.length ≤ 4 ∧ ts.length < k + st.i ∧ declLoop ts en k os st = T
  e : ∀ e, R = .error e → T = .error e
theorem OpI.yes {B G : Nat} {tv : Value} {ts : List Tk} {en : Int} {w : World} {T : Except PE (List Or × PS)} {k : Nat} {wr : World} {ov : Value} {os : List Or} {R : Except PE PS} (h : OpI B G tv ts en w T k wr ov os R) (hop : isX ts R kwOp = true) : os.length ≤ 4 ∧ 0 < k := by
  obtain ⟨st, rfl, hi, _⟩ := isX_ok hop
  obtain ⟨h1, h2, _⟩ := h.r st rfl
  have := (show PqW B G tv ts en ov 0 wr (.slice none 0 0) st .nilIface from h.x).il
  exact ⟨h1, by omega⟩
theorem OpI.next {B G : Nat} {tv : Value} {ts : List Tk} {en : Int} {w : World} {T : Except PE (List Or × PS)} {k : Nat} {wr : World} {ov : Value} {os : List Or} {R : Except PE PS} (h : OpI B G tv ts en w T k wr ov os R) (hop : isX ts R kwOp = true) (hB : w.heap.size ≤ B) {w2 : World} {ov2 : Value} {os2 : List Or} (hx : PqX B G tv ts en ov2 0 w2 (.slice none 0 0) (stX (R >>= declP ts en os))) (ho : OwnO B w2 ov2 os2) (hb : Bar (fun k => k = G ∨ ov.ownBlock = some k) wr w2) (hl : os2.length = os.length + 1) (hv : ∀ l st', (R >>= declP ts en os) = .ok (l, st') → os2 = l) :
    OpI B G tv ts en w T (k - 1) w2 ov2 os2 (stX (R >>= declP ts en os)) := by
  obtain ⟨st, rfl, hi, _⟩ := isX_ok hop
  have hop : isP ts st.i kwOp = true := hop
  obtain ⟨h1, h2, h3⟩ := h.r st rfl
  have hil := (show PqW B G tv ts en ov 0 wr (.slice none 0 0) st .nilIface from h.x).il
  obtain ⟨k, rfl⟩ : ∃ j, k = j + 1 := ⟨k - 1, by omega⟩
  have hv : ∀ l st', declP ts en os st = .ok (l, st') → os2 = l := hv
  rw [declLoop, if_pos hop] at h3
  refine ⟨hx, ho, h.b.trans hb fun g hg hs => ?_, by omega, ?_, ?_⟩
  · rcases hs with hs | hs
    · exact hs
    · have := (owno_lt h.o g hs).1; omega
  · intro s1 hs1
    have hs1 : stX (declP ts en os st) = .ok s1 := hs1
    rcases hd : declP ts en os st with _ | ⟨l, s2⟩
    · rw [hd] at hs1; cases hs1
    rw [hd] at hs1 h3
    injection hs1 with hs1
    subst hs1
    obtain rfl := hv _ _ hd
    obtain ⟨a1, a2, a3, a4, o, a5, _⟩ := declP_ok hd
    exact ⟨by omega, by dsimp only; omega, h3⟩
  · intro e he
    have he : stX (declP ts en os st) = .error e := he
    rcases hd : declP ts en os st with x | ⟨l, s2⟩
    · rw [hd] at he h3
      injection he with he
      subst he
      exact h3.symm
    · rw [hd] at he; cases he
/-- the loop's end: an error, or all operations. -/
theorem OpI.no {B G : Nat} {tv : Value} {ts : List Tk} {en : Int} {w : World} {T : Except PE (List Or × PS)} {k : Nat} {wr : World} {ov : Value} {os : List Or} {R : Except PE PS} (h : OpI B G tv ts en w T k wr ov os R) (hop : isX ts R kwOp = false) : T = (R >>= fun st => .ok (os, st)) := by
  rcases R with e | st
  · exact h.e e rfl
  · have hop : isP ts st.i kwOp = false := hop
    obtain ⟨h1, h2, h3⟩ := h.r st rfl
    have hil := (show PqW B G tv ts en ov 0 wr (.slice none 0 0) st .nilIface from h.x).il
    obtain ⟨k, rfl⟩ : ∃ j, k = j + 1 := ⟨k - 1, by omega⟩
    rw [declLoop, if_neg (by rw [hop]; decide)] at h3
    exact h3.symm
/-- a program, or an error. -/
def PqZ (B G : Nat) (tv : Value) (ts : List Tk) (en : Int) (w : World) (e : Ending) (w' : World) : Prop := ∃ ov os nv RF, e = .returned (.tuple #[]) ∧ PqX B G tv ts en ov 0 w' nv RF ∧ OwnO B w' ov os ∧ os.length ≤ 5 ∧ Bar (fun k => k = G) w w' ∧ progP ts en = (RF >>= fun st => .ok (os, st.ns))
theorem prog_err {ts : List Tk} {en : Int} {R : Except PE PS} {os : List Or} {T : Except PE (List Or × PS)} (hT : declLoop ts en (ts.length + 1) [] ⟨0, []⟩ = T) (hR : T = (R >>= fun st => .ok (os, st))) {e : PE} (he : stX (R >>= exprP ts en 40) = .error e) : progP ts en = .error e := by
  unfold progP
  rw [hT, hR]
  rcases R with _ | st
  · exact congrArg Except.error (Except.error.inj he)
  have he : stX (exprP ts en 40 st) = .error e := he
  rcases hx : exprP ts en 40 st with _ | ⟨n, s⟩
  · rw [hx] at he
    simp only [bind, Except.bind, hx]
    exact congrArg Except.error (Except.error.inj he)
  · rw [hx] at he; cases he
theorem prog_ok {ts : List Tk} {en : Int} {R : Except PE PS} {os : List Or} {T : Except PE (List Or × PS)} (hT : declLoop ts en (ts.length + 1) [] ⟨0, []⟩ = T) (hR : T = (R >>= fun st => .ok (os, st))) {st : PS} (he : stX (R >>= exprP ts en 40) = .ok st) : progP ts en = (if st.i < ts.length then .error (403, hereP ts en st.i) else .ok (os, st.ns)) := by
  unfold progP
  rw [hT, hR]
  rcases R with _ | s0
  · cases he
  have he : stX (exprP ts en 40 s0) = .ok st := he
  rcases hx : exprP ts en 40 s0 with _ | ⟨n, s⟩
  · rw [hx] at he; cases he
  · rw [hx] at he
    injection he with he
    subst he
    simp only [bind, Except.bind, hx]
set_option maxRecDepth 100000 in
set_option maxHeartbeats 8000000 in
theorem program_any (B G : Nat) (tv : Value) (ts : List Tk) (en : Int) (w : World) (hBe : w.heap.size ≤ B) (h : Hid (PqX B G tv ts en (.slice none 0 0) 0 w (.slice none 0 0) (.ok ⟨0, []⟩))) :
    Calls Tryz.prog 33 #[.pointer (some ⟨G, 0, none⟩)] w (PqZ B G tv ts en w) := by
  obtain ⟨T, hT⟩ : ∃ T, declLoop ts en (ts.length + 1) [] ⟨0, []⟩ = T := ⟨_, rfl⟩
  have hI0 : Hid (OpI B G tv ts en w T (ts.length + 1) w (.slice none 0 0) [] (.ok ⟨0, []⟩)) := Lib.hid ⟨h.out, OwnO.nil _ _, Bar.refl _ _, by simp, fun st hs => by injection hs with hs; subst hs; exact ⟨by simp, by simp, hT⟩, fun e he => by cases he⟩
  have hT := Lib.hid hT
  have hBe := Lib.hid hBe
  clear h
  go_enter Tryz.func33, Tryz.ntmps33
  go_wp2_with fail
  go_loopg [] (ts.length + 1) (fun k wr => ∃ (ov : Value) (os : List Or) (R : Except PE PS), Hid (OpI B G tv ts en w T k wr ov os R))
  case atStart => exact ⟨_, _, _, hI0⟩
  case round =>
    obtain ⟨ov, os, R, hI⟩ := hrel
    clear hI0
    have k2 := Lib.hid (is_any B G tv ts en ov 0 wr _ _ kwOp (Lib.hid hI.out.x))
    obtain ⟨q, hq⟩ : ∃ q, isX ts R kwOp = q := ⟨_, rfl⟩
    rw [hq] at k2
    have hq := Lib.hid hq
    go_wp2_with fail
    refine k2.out.mono ?_
    rintro e2 w2 ⟨rfl, hb2⟩
    have hb2 := Lib.hid hb2
    clear k2
    cases q
    · have hR := Lib.hid (hI.out.no hq.out)
      have k3 := Lib.hid (pexpr_any B G tv ts en ov w2 _ _ (Lib.hid (hI.out.x.below hb2.out)))
      have hO2 := Lib.hid (show OwnO B w2 ov os from hI.out.o.below hb2.out)
      have hB2 := Lib.hid (show Bar (fun k => k = G) w w2 from hI.out.b.next hb2.out)
      have hl5 := Lib.hid hI.out.l
      have hGB := Lib.hid hI.out.x.lt.1
      clear hI
      go_wp2_with fail
      refine k3.out.mono ?_
      rintro e3 w3 ⟨v3, nv3, rfl, hp3, hs3, _⟩
      have hB3' := Lib.hid (show Bar (fun k => k = G) w2 w3 from ⟨hs3.1.os, hs3.1.tape, hs3.1.output, hs3.1.size, fun k hk hn => hs3.1.block k hk (fun hs => by rcases hs with hs | hs; exact hn hs; cases hs)⟩)
      have hO3 := Lib.hid (show OwnO B w3 ov os from Bar.own hB3'.out hO2.out fun k hk e => by have := (owno_lt hO2.out k hk).1; have := hGB.out; omega)
      have hB3 := Lib.hid (hB2.out.trans hB3'.out fun _ _ hs => hs)
      clear k3 hs3 hO2 hB2 hB3'
      have hn0 := fun (u : Value) (W : World) => err_eql 73 u W
      have hn1 := nil_eql
      have hpe := Lib.hid fun (e : PE) => prog_err (e := e) hT.out hR.out
      have hpo := Lib.hid fun (st : PS) => prog_ok (st := st) hT.out hR.out
      generalize stX (R >>= exprP ts en 40) = R4 at hp3 hpe hpo
      clear hR hT
      rcases R4 with e | st
      · obtain ⟨st3, ev3, h3, F, v, rfl, _⟩ := id hp3
        have hr := h3.r
        have hgl : G < w3.heap.size := by have := h3.gB; have := h3.bl; omega
        have hfin : Hid (∀ W, Below w3.heap.size w3 W → PqZ B G tv ts en w (.returned (.tuple #[])) W) := Lib.hid fun W hW => ⟨ov, os, nv3, .error e, rfl, PqX.below hp3 hW, hO3.out.below hW, hl5.out, hB3.out.next hW, hpe.out e rfl⟩
        clear h3 hp3 hO3 hB3 hpe hpo
        go_wp2_with fail
        go_quiet (fail)
        go_wp2_with fail
        go_end0
        exact hfin.out _ (by (repeat' (first | with_reducible exact Below.refl _ _ | with_reducible assumption | with_reducible apply Below.setCell | with_reducible apply Below.alloc | with_reducible apply Below.drew | with_reducible apply below_drewN | with_reducible exact Nat.le_refl _ | (simp; done) | (simp; omega) | omega | exact Nat.le_refl _)))
      · have h3 : PqW B G tv ts en ov 0 w3 nv3 st .nilIface := hp3
        have hr := h3.r
        have hi := h3.i
        have ht := h3.t
        have hgl : G < w3.heap.size := by have := h3.gB; have := h3.bl; omega
        obtain ⟨a, c, rfl⟩ := tk_len h3.tk
        by_cases hlt : st.i < ts.length
        · have hj : (st.i : Int) < (ts.length : Int) := by omega
          have k4 := Lib.hid fun (W : World) (g : Nat) (hW : Below w3.heap.size w3 W) => fail_ok B G _ ts en ov 0 W nv3 st 403 _ _ (wanted_in g) (Lib.hid (h3.below hW))
          have hpo4 := Lib.hid ((hpo.out st rfl).trans (if_pos hlt))
          clear h3 hp3 hpe hpo hlt
          go_wp2_with fail
          go_quiet (fail)
          go_wp2_with fail
          refine (k4.out _ _ (by (repeat' (first | with_reducible exact Below.refl _ _ | with_reducible assumption | with_reducible apply Below.setCell | with_reducible apply Below.alloc | with_reducible apply Below.drew | with_reducible apply below_drewN | with_reducible exact Nat.le_refl _ | (simp; done) | (simp; omega) | omega | exact Nat.le_refl _)))).mono ?_
          rintro e5 w5 ⟨rfl, hp5, hb5⟩
          have hB5 := Lib.hid (show Bar (fun k => k = G) w3 w5 from (Bar.of_below (S := fun k => k = G) (by (repeat' (first | with_reducible exact Below.refl _ _ | with_reducible assumption | with_reducible apply Below.setCell | with_reducible apply Below.alloc | with_reducible apply Below.drew | with_reducible apply below_drewN | with_reducible exact Nat.le_refl _ | (simp; done) | (simp; omega) | omega | exact Nat.le_refl _)))).trans hb5 fun _ _ hs => hs)
          have hfin : Hid (PqZ B G (.slice a ts.length c) ts en w (.returned (.tuple #[])) w5) := Lib.hid ⟨ov, os, nv3, _, rfl, hp5, Bar.own hB5.out hO3.out (fun k hk e => by have := (owno_lt hO3.out k hk).1; have := hGB.out; omega), hl5.out, hB3.out.trans hB5.out fun _ _ hs => hs, hpo4.out⟩
          clear hp5 hb5 k4 hr hi ht
          go_wp2_with fail
          go_end0
          exact hfin.out
        · have hj : ¬ (st.i : Int) < (ts.length : Int) := by omega
          have hpo4 := Lib.hid ((hpo.out st rfl).trans (if_neg hlt))
          have hfin : Hid (∀ W, Below w3.heap.size w3 W → PqZ B G (.slice a ts.length c) ts en w (.returned (.tuple #[])) W) := Lib.hid fun W hW => ⟨ov, os, nv3, .ok st, rfl, PqX.below hp3 hW, hO3.out.below hW, hl5.out, hB3.out.next hW, hpo4.out⟩
          clear h3 hp3 hO3 hB3 hpe hpo hlt
          go_wp2_with fail
          go_quiet (fail)
          go_wp2_with fail
          go_end0
          exact hfin.out _ (by (repeat' (first | with_reducible exact Below.refl _ _ | with_reducible assumption | with_reducible apply Below.setCell | with_reducible apply Below.alloc | with_reducible apply Below.drew | with_reducible apply below_drewN | with_reducible exact Nat.le_refl _ | (simp; done) | (simp; omega) | omega | exact Nat.le_refl _)))
    · have hk0 := Lib.hid (hI.out.yes hq.out)
      have k3 := Lib.hid (operation_any B G tv ts en ov 0 w2 _ os R rfl (Lib.hid (hI.out.o.below hb2.out)) hk0.out.1 hq.out (Lib.hid (hI.out.x.below hb2.out)))
      go_wp2_with fail
      refine k3.out.mono ?_
      rintro e3 w3 ⟨ov3, os3, rfl, hp3, ho3, hb3, hl3, hv3⟩
      have hI3 := Lib.hid (hI.out.next hq.out hBe.out hp3 ho3 ((Bar.of_below (S := fun k => k = G ∨ ov.ownBlock = some k) hb2.out).trans hb3 fun _ _ hs => hs) hl3 hv3)
      clear k3 hp3 ho3 hb3 hl3 hv3
      go_wp2_with fail
      go_roundg (gk - 1)
      case measure => have := hk0.out.2; omega
      case rel => exact ⟨ov3, os3, _, hI3⟩
end Go.Proofs.YtidlljookjicpaaGreatDoor
