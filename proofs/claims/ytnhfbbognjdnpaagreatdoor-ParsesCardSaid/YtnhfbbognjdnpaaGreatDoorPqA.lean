/- The program's parser in memory; its small functions. -/
import Derived.Test.YtnhfbbognjdnpaaGreatDoorPkA
import Derived.Deep.RegionLaw
/- The program's parser in memory; its small functions. -/
namespace Go.Proofs.YtnhfbbognjdnpaaGreatDoor
open Go.RowKit
set_option linter.unusedVariables false
set_option linter.unusedSimpArgs false

/-- an error that says its number. -/
def ErIn (v : Value) (c : Int) : Prop := (c = 403 ∧ ∃ g, v = .iface 76 (.pointer (some ⟨g, 0, none⟩))) ∨ (c ≠ 403 ∧ v = .iface 26 (.int .i64 c))
/-- the type of what lies in a block. -/
def TyAt (w : World) (b : Nat) (T : TypeId) : Prop := ∃ arr fz, w.heap[b]? = some (.cells arr T fz)
theorem TyAt.bar {S : Nat → Prop} {w w' : World} {b : Nat} {T : TypeId} (h : TyAt w b T) (hb : Bar S w w') (hn : ¬ S b) : TyAt w' b T := by
  obtain ⟨arr, fz, h⟩ := h
  exact ⟨arr, fz, (hb.block b (Array.getElem?_eq_some_iff.1 h).1 hn).trans h⟩
theorem TyAt.set {w : World} {b : Nat} {T : TypeId} (h : TyAt w b T) (a : Addr) (v : Value) : TyAt (w.setCell a v) b T := by
  obtain ⟨arr, fz, h⟩ := h
  by_cases e : a.block = b
  · subst e
    refine ⟨if a.spot.isSome then arr else arr.setIfInBounds a.off v, fz, ?_⟩
    show (w.heap.modify a.block _)[a.block]? = _
    rw [Array.getElem?_modify, if_pos rfl, h]
    rfl
  · exact ⟨arr, fz, by
      show (w.heap.modify a.block _)[b]? = _
      rw [Array.getElem?_modify, if_neg e, h]⟩
theorem TyAt.ne {w : World} {b b' : Nat} {T T' : TypeId} (h : TyAt w b T) (h' : TyAt w b' T') (hT : T ≠ T') : b ≠ b' := by
  rintro rfl
  obtain ⟨_, _, h⟩ := h
  obtain ⟨_, _, h'⟩ := h'
  rw [h] at h'
  injection h' with h'
  injection h' with _ h' _
  exact hT h'
theorem TyAt.new (w : World) (arr : Array Value) (T : TypeId) : TyAt (w.alloc (.cells arr T)) w.heap.size T := ⟨arr, (0, 0), by show (w.heap.push _)[w.heap.size]? = _; simp⟩
/-- an error that says its place too, in a block of its own. -/
def EvIs (w : World) (G : Nat) (nv ov ev : Value) (e : PE) : Prop := ∃ F v, ev = .iface 43 (.pointer (some ⟨F, 0, none⟩)) ∧ F < w.heap.size ∧ F ≠ G ∧ nv.ownBlock ≠ some F ∧ ov.ownBlock ≠ some F ∧ w.cell? ⟨F, 0, none⟩ = some (.int .i64 e.2) ∧ w.cell? ⟨F, 1, none⟩ = some v ∧ ErIn v e.1 ∧ TyAt w F 47
structure PqW (B G : Nat) (tv : Value) (ts : List Tk) (en : Int) (ov : Value) (d : Int) (w : World) (nv : Value) (st : PS) (ev : Value) : Prop where
  t : w.cell? ⟨G, 0, none⟩ = some tv
  e : w.cell? ⟨G, 1, none⟩ = some (.int .i64 en)
  i : w.cell? ⟨G, 2, none⟩ = some (.int .i64 st.i)
  d : w.cell? ⟨G, 3, none⟩ = some (.int .i64 d)
  o : w.cell? ⟨G, 4, none⟩ = some ov
  n : w.cell? ⟨G, 5, none⟩ = some nv
  r : w.cell? ⟨G, 6, none⟩ = some ev
  gB : G < B
  bl : B ≤ w.heap.size
  fg : ∀ o, w.frozen? ⟨G, o, none⟩ = false
  tk : TkIn B G w tv ts
  own : OwnN B w nv st.ns
  il : st.i ≤ ts.length
  nl : st.ns.length ≤ 512
  tl : ts.length ≤ 1000000
  ol : ∀ k, ov.ownBlock = some k → k < w.heap.size
/-- a state, or the first error. -/
def PqX (B G : Nat) (tv : Value) (ts : List Tk) (en : Int) (ov : Value) (d : Int) (w : World) (nv : Value) (R : Except PE PS) : Prop := match R with
  | .ok st => PqW B G tv ts en ov d w nv st .nilIface
  | .error e => ∃ st ev, PqW B G tv ts en ov d w nv st ev ∧ EvIs w G nv ov ev e
section
variable {B G : Nat} {tv : Value} {ts : List Tk} {en : Int} {ov : Value} {d : Int} {w : World} {nv : Value}
theorem PqW.bar {S : Nat → Prop} {w' : World} {st : PS} {ev : Value} (h : PqW B G tv ts en ov d w nv st ev) (hb : Bar S w w') (hG : ¬ S G) (hB : ∀ k, k < B → k ≠ G → ¬ S k) (hn : ∀ k, nv.ownBlock = some k → ¬ S k) : PqW B G tv ts en ov d w' nv st ev :=
  ⟨hb.cell h.t hG, hb.cell h.e hG, hb.cell h.i hG, hb.cell h.d hG, hb.cell h.o hG, hb.cell h.n hG, hb.cell h.r hG, h.gB, by have := hb.size; have := h.bl; omega, fun o => by rw [hb.frozen (a := ⟨G, o, none⟩) (by have := h.gB; have := h.bl; show G < _; omega) hG]; exact h.fg o, h.tk.bar hb hB, Bar.own hb h.own hn, h.il, h.nl, h.tl, fun k hk => by have := h.ol k hk; have := hb.size; omega⟩
theorem PqW.below {w' : World} {st : PS} {ev : Value} (h : PqW B G tv ts en ov d w nv st ev) (hb : Below w.heap.size w w') : PqW B G tv ts en ov d w' nv st ev :=
  h.bar (Bar.of_below (S := fun _ => False) hb) id (fun _ _ _ => id) (fun _ _ => id)
theorem EvIs.bar {S : Nat → Prop} {w' : World} {nv' ev : Value} {e : PE} (h : EvIs w G nv ov ev e) (hb : Bar S w w') (hS : ∀ k, k ≠ G → nv.ownBlock ≠ some k → TyAt w k 47 → ¬ S k) (hn : ∀ g, nv'.ownBlock = some g → nv.ownBlock = some g ∨ w.heap.size ≤ g) : EvIs w' G nv' ov ev e := by
  obtain ⟨F, v, h1, h2, h3, h4, h5, h6, h7, h8, h9⟩ := h
  exact ⟨F, v, h1, by have := hb.size; omega, h3, fun hc => by rcases hn F hc with hc | hc; exact h4 hc; omega, h5, hb.cell h6 (hS F h3 h4 h9), hb.cell h7 (hS F h3 h4 h9), h8, h9.bar hb (hS F h3 h4 h9)⟩
theorem EvIs.below {w' : World} {ev : Value} {e : PE} (h : EvIs w G nv ov ev e) (hb : Below w.heap.size w w') : EvIs w' G nv ov ev e :=
  h.bar (Bar.of_below (S := fun _ => False) hb) (fun _ _ _ _ => id) (fun _ hg => .inl hg)
theorem PqX.below {w' : World} {R : Except PE PS} (h : PqX B G tv ts en ov d w nv R) (hb : Below w.heap.size w w') : PqX B G tv ts en ov d w' nv R := by
  cases R with
  | ok st => exact PqW.below h hb
  | error e => obtain ⟨st, ev, h1, h2⟩ := h; exact ⟨st, ev, h1.below hb, h2.below hb⟩
/-- a cell of the object that was written. -/
theorem PqW.setI {st : PS} {ev : Value} (h : PqW B G tv ts en ov d w nv st ev) (j : Nat) (hj : j ≤ ts.length) : PqW B G tv ts en ov d (w.setCell ⟨G, 2, none⟩ (.int .i64 j)) nv ⟨j, st.ns⟩ ev ∧ Bar (fun k => k = G) w (w.setCell ⟨G, 2, none⟩ (.int .i64 j)) := by
  have ne : ∀ a b : Nat, a ≠ b → (⟨G, a, none⟩ : Addr) ≠ ⟨G, b, none⟩ := fun a b hab e => by injection e with _ e2 _; exact hab e2
  have hb : Bar (fun k => k = G) w (w.setCell ⟨G, 2, none⟩ (.int .i64 j)) := Bar.set (S := fun k => k = G) ⟨G, 2, none⟩ _ rfl
  exact ⟨⟨setO h.t (ne _ _ (by decide)), setO h.e (ne _ _ (by decide)), setS h.i, setO h.d (ne _ _ (by decide)), setO h.o (ne _ _ (by decide)), setO h.n (ne _ _ (by decide)), setO h.r (ne _ _ (by decide)), h.gB, by simpa using h.bl, fun o => by simp only [World.frozen?_setCell]; exact h.fg o, h.tk.bar hb (fun k _ hk => hk), Bar.own hb h.own (fun k hk e => by have := (own_lt h.own k hk).1; have := h.gB; omega), hj, h.nl, h.tl, fun k hk => by have := h.ol k hk; simpa using this⟩, hb⟩
theorem PqW.setR {st : PS} {ev : Value} (h : PqW B G tv ts en ov d w nv st ev) (ev' : Value) : PqW B G tv ts en ov d (w.setCell ⟨G, 6, none⟩ ev') nv st ev' ∧ Bar (fun k => k = G) w (w.setCell ⟨G, 6, none⟩ ev') := by
  have ne : ∀ a b : Nat, a ≠ b → (⟨G, a, none⟩ : Addr) ≠ ⟨G, b, none⟩ := fun a b hab e => by injection e with _ e2 _; exact hab e2
  have hb : Bar (fun k => k = G) w (w.setCell ⟨G, 6, none⟩ ev') := Bar.set (S := fun k => k = G) ⟨G, 6, none⟩ _ rfl
  exact ⟨⟨setO h.t (ne _ _ (by decide)), setO h.e (ne _ _ (by decide)), setO h.i (ne _ _ (by decide)), setO h.d (ne _ _ (by decide)), setO h.o (ne _ _ (by decide)), setO h.n (ne _ _ (by decide)), setS h.r, h.gB, by simpa using h.bl, fun o => by simp only [World.frozen?_setCell]; exact h.fg o, h.tk.bar hb (fun k _ hk => hk), Bar.own hb h.own (fun k hk e => by have := (own_lt h.own k hk).1; have := h.gB; omega), h.il, h.nl, h.tl, fun k hk => by have := h.ol k hk; simpa using this⟩, hb⟩
end
/-- what a call did: the object and the row of nodes may be others. -/
def Stp (G : Nat) (w : World) (nv : Value) (w' : World) (nv' : Value) : Prop := Bar (PFr G nv) w w' ∧ PHop nv nv' w
theorem Stp.refl (G : Nat) (w : World) (nv : Value) : Stp G w nv w nv := ⟨Bar.refl _ _, fun _ hg => .inl hg⟩
theorem Stp.trans {G : Nat} {w w1 w2 : World} {nv nv1 nv2 : Value} (h : Stp G w nv w1 nv1) (h' : Stp G w1 nv1 w2 nv2) : Stp G w nv w2 nv2 :=
  ⟨h.1.trans h'.1 fun k hk hs => by
    rcases hs with hs | hs
    · exact .inl hs
    · rcases h.2 k hs with hg | hg
      · exact .inr hg
      · omega, fun g hg => by
    rcases h'.2 g hg with hg | hg
    · exact h.2 g hg
    · exact .inr (by have := h.1.size; omega)⟩
theorem Stp.of {G : Nat} {w w' : World} {nv : Value} (h : Bar (fun k => k = G) w w') : Stp G w nv w' nv := ⟨(Bar.refl (PFr G nv) w).trans h fun _ _ hs => .inl hs, fun _ hg => .inl hg⟩
theorem Stp.below {G : Nat} {w w' : World} {nv : Value} (h : Below w.heap.size w w') : Stp G w nv w' nv := ⟨Bar.of_below h, fun _ hg => .inl hg⟩
theorem Stp.next {G : Nat} {w w1 w2 : World} {nv nv1 : Value} (h : Stp G w nv w1 nv1) (hb : Below w1.heap.size w1 w2) : Stp G w nv w2 nv1 := h.trans (Stp.below hb)
/-- the next token; behind an error and at the end none of a text's. -/
def peekX (ts : List Tk) (en : Int) (R : Except PE PS) : Tk := match R with
  | .ok st => (ts[st.i]?).getD ⟨-1, [], 0, en⟩
  | .error _ => ⟨-1, [], 0, en⟩
theorem peek_ok (ts : List Tk) (en : Int) (st : PS) : peekX ts en (.ok st) = (ts[st.i]?).getD ⟨-1, [], 0, en⟩ := rfl
theorem peek_here (ts : List Tk) (en : Int) (st : PS) : (peekX ts en (.ok st)).at_ = hereP ts en st.i := by
  rw [peek_ok]; unfold hereP; cases ts[st.i]? <;> rfl
theorem peek_is (ts : List Tk) (en : Int) (R : Except PE PS) (u : List UInt8) : (((peekX ts en R).kind == 2 || (peekX ts en R).kind == 3) && (peekX ts en R).text == u) = isX ts R u := by
  cases R with
  | error e => simp [peekX, isX]
  | ok st =>
    show _ = isP ts st.i u
    rw [peek_ok]
    unfold isP
    cases ts[st.i]? with
    | none => simp
    | some t => rfl
/-- one goes on, if it is this word or sign. -/
def takeX (ts : List Tk) (R : Except PE PS) (u : List UInt8) : Except PE PS := match R with
  | .ok st => if isP ts st.i u then .ok ⟨st.i + 1, st.ns⟩ else .ok st
  | .error e => .error e
theorem take_no {ts : List Tk} {R : Except PE PS} {u : List UInt8} (h : isX ts R u = false) : takeX ts R u = R := by
  cases R with
  | error e => rfl
  | ok st => have h : isP ts st.i u = false := h; show (if isP ts st.i u then _ else _) = _; rw [if_neg (by rw [h]; decide)]
theorem want_no {ts : List Tk} {en : Int} {R : Except PE PS} {u : List UInt8} (h : isX ts R u = false) : (R >>= wantP ts en u) = failX ts en R 403 := by
  cases R with
  | error e => rfl
  | ok st => have h : isP ts st.i u = false := h; show (if isP ts st.i u then _ else _) = _; rw [if_neg (by rw [h]; decide)]; rfl
theorem want_yes {ts : List Tk} {en : Int} {R : Except PE PS} {u : List UInt8} (h : isX ts R u = true) : (R >>= wantP ts en u) = takeX ts R u := by
  cases R with
  | error e => rfl
  | ok st => have h : isP ts st.i u = true := h; show (if isP ts st.i u then _ else _) = (if isP ts st.i u then _ else _); rw [if_pos h, if_pos h]
theorem isX_ok {ts : List Tk} {R : Except PE PS} {u : List UInt8} (h : isX ts R u = true) : ∃ st, R = .ok st ∧ st.i < ts.length ∧ takeX ts R u = .ok ⟨st.i + 1, st.ns⟩ := by
  cases R with
  | error e => cases h
  | ok st => have h : isP ts st.i u = true := h; exact ⟨st, rfl, isP_lt h, by show (if isP ts st.i u then _ else _) = _; rw [if_pos h]⟩
end Go.Proofs.YtnhfbbognjdnpaaGreatDoor

/- The program's parser: the small functions. -/
namespace Go.Proofs.YtnhfbbognjdnpaaGreatDoor
open Go.RowKit
set_option linter.unusedVariables false
set_option linter.unusedSimpArgs false

theorem err_eql (t : TypeId) (u : Value) (W : World) : (binOp .eql 40 (.iface t u) .nilIface).run Tryz.prog W = .ok (.bool false) W := by kernel_rfl
theorem nil_eql (W : World) : (binOp .eql 40 .nilIface .nilIface).run Tryz.prog W = .ok (.bool true) W := by kernel_rfl
theorem tkf0 (a b c d : Value) (W : World) : (Instr.field 95 (.agg #[a, b, c, d]) 0).run Tryz.prog W = .ok a W := by kernel_rfl
theorem tkf1 (a b c d : Value) (W : World) : (Instr.field 95 (.agg #[a, b, c, d]) 1).run Tryz.prog W = .ok b W := by kernel_rfl
theorem tkf2 (a b c d : Value) (W : World) : (Instr.field 95 (.agg #[a, b, c, d]) 2).run Tryz.prog W = .ok c W := by kernel_rfl
theorem tkf3 (a b c d : Value) (W : World) : (Instr.field 95 (.agg #[a, b, c, d]) 3).run Tryz.prog W = .ok d W := by kernel_rfl
/-- a result's own cells, then. -/
theorem pk_box (w W : World) (n : Nat) (hW : (w.alloc (.cells #[.int .i64 0, .string ⟨#[]⟩, .int .i64 0, .int .i64 0] 95)).drewN n = W) : W.cell? ⟨w.heap.size, 0, none⟩ = some (.int .i64 0) ∧ W.cell? ⟨w.heap.size, 1, none⟩ = some (.string ⟨#[]⟩) ∧ W.cell? ⟨w.heap.size, 2, none⟩ = some (.int .i64 0) ∧ W.cell? ⟨w.heap.size, 3, none⟩ = some (.int .i64 0) ∧ (∀ o, W.frozen? ⟨w.heap.size, o, none⟩ = false) ∧ Below w.heap.size w W ∧ w.heap.size < W.heap.size := by
  subst hW
  have hb := below_drewN (below_alc w (.cells #[.int .i64 0, .string ⟨#[]⟩, .int .i64 0, .int .i64 0] 95)) n
  refine ⟨?_, ?_, ?_, ?_, fun o => ?_, hb, ?_⟩
  · simp [go_sem]
  · simp [go_sem]
  · simp [go_sem]
  · simp [go_sem]
  · simp [go_sem]
  · simp [go_sem]
set_option maxRecDepth 100000 in
set_option maxHeartbeats 2000000 in
theorem peek_no (B G : Nat) (tv : Value) (ts : List Tk) (en : Int) (ov : Value) (d : Int) (w : World) (nv : Value) (st : PS) (F : Nat) (h : Hid (PqW B G tv ts en ov d w nv st (.iface 43 (.pointer (some ⟨F, 0, none⟩))))) :
    Calls Tryz.prog 43 #[.pointer (some ⟨G, 0, none⟩)] w fun e w' => e = .returned (tkV ⟨-1, [], 0, en⟩) ∧ Below w.heap.size w w' := by
  have h1 := h.out.r
  have hgl : G < w.heap.size := by have := h.out.gB; have := h.out.bl; omega
  have h2 := h.out.e
  have hn0 := fun (u : Value) (W : World) => err_eql 43 u W
  have hn1 := nil_eql
  go_enter Tryz.func43, Tryz.ntmps43
  go_wp2_with fail
  go_quiet (fail)
  obtain ⟨W0, hW0⟩ : ∃ W, (w.alloc (.cells #[.int .i64 0, .string ⟨#[]⟩, .int .i64 0, .int .i64 0] 95)).drewN nq = W := ⟨_, rfl⟩
  obtain ⟨x0, x1, x2, x3, x4, x5, x6⟩ := pk_box w W0 nq hW0
  rw [hW0]
  clear hW0
  have h5 := Lib.hid (h.out.below x5)
  have h6 := h5.out.e
  have hgl2 : G < W0.heap.size := by omega
  go_wp2_with fail
  refine bodyPost_ret (v := tkV ⟨-1, [], 0, en⟩) (by simp [results, Tryz.results43, go_sem, tkV, bs, x0, x1, x2, x3]) rfl ⟨rfl, by (repeat' (first | with_reducible exact Below.refl _ _ | with_reducible assumption | with_reducible apply Below.setCell | with_reducible apply Below.alloc | with_reducible apply Below.drew | with_reducible apply below_drewN | with_reducible exact Nat.le_refl _ | (simp; done) | (simp; omega) | omega | exact Nat.le_refl _))⟩
set_option maxRecDepth 100000 in
set_option maxHeartbeats 2000000 in
theorem peek_at (B G : Nat) (tv : Value) (ts : List Tk) (en : Int) (ov : Value) (d : Int) (w : World) (nv : Value) (st : PS) (h : Hid (PqW B G tv ts en ov d w nv st .nilIface)) (hlt : st.i < ts.length) :
    Calls Tryz.prog 43 #[.pointer (some ⟨G, 0, none⟩)] w fun e w' => e = .returned (tkV (ts.getD st.i tk0)) ∧ Below w.heap.size w w' := by
  have h1 := h.out.r
  have hgl : G < w.heap.size := by have := h.out.gB; have := h.out.bl; omega
  have h2 := h.out.i
  have h3 := h.out.t
  obtain ⟨T, c, rfl, hT, ⟨a0, a1, a2, a3⟩, _⟩ := tk_get h.out.tk hlt
  simp only [Nat.zero_add] at a0 a1 a2 a3
  generalize ts.getD st.i tk0 = t at a0 a1 a2 a3
  have hj1 : (st.i : Int) < (ts.length : Int) := by omega
  have hj0 : (0 : Int) ≤ (st.i : Int) := by omega
  clear hlt
  have hn0 := fun (u : Value) (W : World) => err_eql 43 u W
  have hn1 := nil_eql
  go_enter Tryz.func43, Tryz.ntmps43
  go_wp2_with fail
  go_quiet (fail)
  obtain ⟨W0, hW0⟩ : ∃ W, (w.alloc (.cells #[.int .i64 0, .string ⟨#[]⟩, .int .i64 0, .int .i64 0] 95)).drewN nq = W := ⟨_, rfl⟩
  obtain ⟨x0, x1, x2, x3, x4, x5, x6⟩ := pk_box w W0 nq hW0
  rw [hW0]
  clear hW0
  have h5 := Lib.hid (h.out.below x5)
  have q0 : W0.cell? _ = _ := carry x5 hT a0
  have q1 : W0.cell? _ = _ := carry x5 hT a1
  have q2 : W0.cell? _ = _ := carry x5 hT a2
  have q3 : W0.cell? _ = _ := carry x5 hT a3
  have h6 := h5.out.i; have h7 := h5.out.t
  have hgl2 : G < W0.heap.size := by omega
  have hT2 : T < W0.heap.size := by omega
  go_wp2_with fail
  go_region
  go_wp2_with fail
  refine bodyPost_ret (v := tkV t) (by simp [results, Tryz.results43, go_sem, tkV, bs, x0, x1, x2, x3]) rfl ⟨rfl, by (repeat' (first | with_reducible exact Below.refl _ _ | with_reducible assumption | with_reducible apply Below.setCell | with_reducible apply Below.alloc | with_reducible apply Below.drew | with_reducible apply below_drewN | with_reducible exact Nat.le_refl _ | (simp; done) | (simp; omega) | omega | exact Nat.le_refl _))⟩
set_option maxRecDepth 100000 in
set_option maxHeartbeats 2000000 in
theorem peek_end (B G : Nat) (tv : Value) (ts : List Tk) (en : Int) (ov : Value) (d : Int) (w : World) (nv : Value) (st : PS) (h : Hid (PqW B G tv ts en ov d w nv st .nilIface)) (hlt : ¬ st.i < ts.length) :
    Calls Tryz.prog 43 #[.pointer (some ⟨G, 0, none⟩)] w fun e w' => e = .returned (tkV ⟨-1, [], 0, en⟩) ∧ Below w.heap.size w w' := by
  have h1 := h.out.r
  have hgl : G < w.heap.size := by have := h.out.gB; have := h.out.bl; omega
  have h2 := h.out.i
  have h3 := h.out.t
  have h4 := h.out.e
  obtain ⟨a, c, rfl⟩ := tk_len h.out.tk
  have hj1 : ¬ (st.i : Int) < (ts.length : Int) := by omega
  clear hlt
  have hn0 := fun (u : Value) (W : World) => err_eql 43 u W
  have hn1 := nil_eql
  go_enter Tryz.func43, Tryz.ntmps43
  go_wp2_with fail
  go_quiet (fail)
  obtain ⟨W0, hW0⟩ : ∃ W, (w.alloc (.cells #[.int .i64 0, .string ⟨#[]⟩, .int .i64 0, .int .i64 0] 95)).drewN nq = W := ⟨_, rfl⟩
  obtain ⟨x0, x1, x2, x3, x4, x5, x6⟩ := pk_box w W0 nq hW0
  rw [hW0]
  clear hW0
  have h5 := Lib.hid (h.out.below x5)
  have h6 := h5.out.e
  have hgl2 : G < W0.heap.size := by omega
  go_wp2_with fail
  refine bodyPost_ret (v := tkV ⟨-1, [], 0, en⟩) (by simp [results, Tryz.results43, go_sem, tkV, bs, x0, x1, x2, x3]) rfl ⟨rfl, by (repeat' (first | with_reducible exact Below.refl _ _ | with_reducible assumption | with_reducible apply Below.setCell | with_reducible apply Below.alloc | with_reducible apply Below.drew | with_reducible apply below_drewN | with_reducible exact Nat.le_refl _ | (simp; done) | (simp; omega) | omega | exact Nat.le_refl _))⟩
theorem peek_any (B G : Nat) (tv : Value) (ts : List Tk) (en : Int) (ov : Value) (d : Int) (w : World) (nv : Value) (R : Except PE PS) (h : Hid (PqX B G tv ts en ov d w nv R)) :
    Calls Tryz.prog 43 #[.pointer (some ⟨G, 0, none⟩)] w fun e w' => e = .returned (tkV (peekX ts en R)) ∧ Below w.heap.size w w' := by
  cases R with
  | error e =>
    obtain ⟨st, ev, h1, F, v, rfl, _⟩ := h.out
    exact peek_no B G tv ts en ov d w nv st _ (Lib.hid h1)
  | ok st =>
    have h1 : PqW B G tv ts en ov d w nv st .nilIface := h.out
    rw [peek_ok]
    by_cases hlt : st.i < ts.length
    · obtain ⟨_, _, _, _, _, hg⟩ := tk_get h1.tk hlt
      simp only [hg, Option.getD_some]
      exact peek_at B G tv ts en ov d w nv st (Lib.hid h1) hlt
    · rw [List.getElem?_eq_none (by omega)]
      exact peek_end B G tv ts en ov d w nv st (Lib.hid h1) hlt
set_option maxRecDepth 100000 in
set_option maxHeartbeats 2000000 in
theorem place_any (B G : Nat) (tv : Value) (ts : List Tk) (en : Int) (ov : Value) (d : Int) (w : World) (nv : Value) (R : Except PE PS) (h : Hid (PqX B G tv ts en ov d w nv R)) :
    Calls Tryz.prog 48 #[.pointer (some ⟨G, 0, none⟩)] w fun e w' => e = .returned (.int .i64 (peekX ts en R).at_) ∧ Below w.heap.size w w' := by
  have k := Lib.hid (peek_any B G tv ts en ov d w nv R h)
  generalize peekX ts en R = t at k
  unfold tkV at k
  have f3 := tkf3
  go_enter Tryz.func48, Tryz.ntmps48
  go_wp2_with fail
  refine k.out.mono ?_
  rintro e w1 ⟨rfl, hb⟩
  clear k
  go_wp2_with fail
  go_ret
  exact ⟨rfl, hb⟩
set_option maxRecDepth 100000 in
set_option maxHeartbeats 2000000 in
theorem is_any (B G : Nat) (tv : Value) (ts : List Tk) (en : Int) (ov : Value) (d : Int) (w : World) (nv : Value) (R : Except PE PS) (u : List UInt8) (h : Hid (PqX B G tv ts en ov d w nv R)) :
    Calls Tryz.prog 27 #[.pointer (some ⟨G, 0, none⟩), .string (bs u)] w fun e w' => e = .returned (.bool (isX ts R u)) ∧ Below w.heap.size w w' := by
  have k := Lib.hid (peek_any B G tv ts en ov d w nv R h)
  rw [← peek_is ts en R u]
  generalize peekX ts en R = t at k ⊢
  unfold tkV at k
  obtain ⟨tk, tx, tn, ta⟩ := t
  dsimp only at k ⊢
  have f0 := tkf0; have f1 := tkf1
  obtain ⟨q, hq⟩ : ∃ q, (tx == u) = q := ⟨_, rfl⟩
  rw [hq]
  go_enter Tryz.func27, Tryz.ntmps27
  go_wp2_with fail
  refine k.out.mono ?_
  rintro e w1 ⟨rfl, hb⟩
  clear k
  have hb := Lib.hid hb
  have he : ((bs tx).toList == (bs u).toList) = q := by rw [ByteArray.toList_eq, ByteArray.toList_eq]; exact hq
  by_cases h2 : tk = 2
  · subst h2
    clear hq
    go_wp2_with fail
    go_ret
    exact ⟨by cases q <;> rfl, belA _ hb.out⟩
  by_cases h3 : tk = 3
  · subst h3
    clear hq h2
    go_wp2_with fail
    go_ret
    exact ⟨by cases q <;> rfl, belA _ hb.out⟩
  have e2 : (tk == 2) = false := beq_eq_false_iff_ne.2 h2
  have e3 : (tk == 3) = false := beq_eq_false_iff_ne.2 h3
  clear hq h2 h3
  go_wp2_with fail
  go_ret
  exact ⟨by rw [e2, e3]; rfl, belA _ hb.out⟩
end Go.Proofs.YtnhfbbognjdnpaaGreatDoor

/- The program's parser: fail, skip, take. -/
namespace Go.Proofs.YtnhfbbognjdnpaaGreatDoor
open Go.RowKit
set_option linter.unusedVariables false
set_option linter.unusedSimpArgs false

/-- what a call of the small ones leaves. -/
def PqP (B G : Nat) (tv : Value) (ts : List Tk) (en : Int) (ov : Value) (d : Int) (w : World) (nv : Value) (R : Except PE PS) (w' : World) : Prop := PqX B G tv ts en ov d w' nv R ∧ Bar (fun k => k = G) w w'
set_option maxRecDepth 100000 in
set_option maxHeartbeats 2000000 in
theorem fail_ok (B G : Nat) (tv : Value) (ts : List Tk) (en : Int) (ov : Value) (d : Int) (w : World) (nv : Value) (st : PS) (c : Int) (T : TypeId) (pv : Value) (hv : ErIn (.iface T pv) c) (h : Hid (PqW B G tv ts en ov d w nv st .nilIface)) :
    Calls Tryz.prog 30 #[.pointer (some ⟨G, 0, none⟩), .iface T pv] w fun e w' => e = .returned (.tuple #[]) ∧ PqP B G tv ts en ov d w nv (.error (c, hereP ts en st.i)) w' := by
  have k := Lib.hid (place_any B G tv ts en ov d w nv (.ok st) (Lib.hid h.out))
  rw [peek_here] at k
  have h1 := h.out.r
  have hn0 := fun (u : Value) (W : World) => err_eql 43 u W
  have hn1 := nil_eql
  go_enter Tryz.func30, Tryz.ntmps30
  go_wp2_with fail
  refine k.out.mono ?_
  rintro e w1 ⟨rfl, hb⟩
  clear k h1
  have hb := Lib.hid hb
  have h2 := Lib.hid (h.out.below hb.out)
  have hr := h2.out.r
  have hf := h2.out.fg
  have hgl : G < w1.heap.size := by have := h2.out.gB; have := h2.out.bl; omega
  go_wp2_with fail
  go_end0
  obtain ⟨h4, h5⟩ := h2.out.setR (.iface 43 (.pointer (some ⟨w1.heap.size, 0, none⟩)))
  have hc : ∀ (i : Nat) (u : Value), (#[.int .i64 (hereP ts en st.i), .iface T pv] : Array Value)[i]? = some u → ((w1.setCell ⟨G, 6, none⟩ (.iface 43 (.pointer (some ⟨w1.heap.size, 0, none⟩)))).alloc (.cells #[.int .i64 (hereP ts en st.i), .iface T pv] 47)).cell? ⟨w1.heap.size, i, none⟩ = some u := fun i u hu => by
    rw [World.cell?_alloc_at _ _ _ _ (by simp)]; exact hu
  refine ⟨rfl, ⟨st, _, h4.below (below_alc _ _), w1.heap.size, .iface T pv, rfl, by simp, by omega, fun e => by have := (own_lt h2.out.own _ e).2; omega, fun e => by have := h2.out.ol _ e; omega, hc 0 _ rfl, hc 1 _ rfl, hv, by have k := TyAt.new (w1.setCell ⟨G, 6, none⟩ (.iface 43 (.pointer (some ⟨w1.heap.size, 0, none⟩)))) #[.int .i64 (hereP ts en st.i), .iface T pv] 47; simpa using k⟩, ?_⟩
  exact ((Bar.of_below (S := fun k => k = G) hb.out).trans h5 fun _ _ hs => hs).next (below_alc _ _)
set_option maxRecDepth 100000 in
set_option maxHeartbeats 2000000 in
theorem fail_err (B G : Nat) (tv : Value) (ts : List Tk) (en : Int) (ov : Value) (d : Int) (w : World) (nv : Value) (T : TypeId) (pv : Value) (e : PE) (h : Hid (PqX B G tv ts en ov d w nv (.error e))) :
    Calls Tryz.prog 30 #[.pointer (some ⟨G, 0, none⟩), .iface T pv] w fun e' w' => e' = .returned (.tuple #[]) ∧ PqP B G tv ts en ov d w nv (.error e) w' := by
  obtain ⟨st, ev, h2, F, v, rfl, _⟩ := h.out
  have h1 := h2.r
  clear h2
  have hn0 := fun (u : Value) (W : World) => err_eql 43 u W
  have hn1 := nil_eql
  go_enter Tryz.func30, Tryz.ntmps30
  go_wp2_with fail
  go_end0
  exact ⟨rfl, h.out, Bar.refl _ _⟩
theorem pfail_any (B G : Nat) (tv : Value) (ts : List Tk) (en : Int) (ov : Value) (d : Int) (w : World) (nv : Value) (R : Except PE PS) (c : Int) (T : TypeId) (pv : Value) (hv : ErIn (.iface T pv) c) (h : Hid (PqX B G tv ts en ov d w nv R)) :
    Calls Tryz.prog 30 #[.pointer (some ⟨G, 0, none⟩), .iface T pv] w fun e w' => e = .returned (.tuple #[]) ∧ PqP B G tv ts en ov d w nv (failX ts en R c) w' := by
  cases R with
  | error e => exact fail_err B G tv ts en ov d w nv T pv e h
  | ok st => exact fail_ok B G tv ts en ov d w nv st c T pv hv (Lib.hid h.out)
set_option maxRecDepth 100000 in
set_option maxHeartbeats 2000000 in
theorem skip_any (B G : Nat) (tv : Value) (ts : List Tk) (en : Int) (ov : Value) (d : Int) (w : World) (nv : Value) (R : Except PE PS) (u : List UInt8) (h : Hid (PqX B G tv ts en ov d w nv R)) :
    Calls Tryz.prog 69 #[.pointer (some ⟨G, 0, none⟩), .string (bs u)] w fun e w' => e = .returned (.bool (isX ts R u)) ∧ PqP B G tv ts en ov d w nv (takeX ts R u) w' := by
  have k := Lib.hid (is_any B G tv ts en ov d w nv R u h)
  obtain ⟨q, hq⟩ : ∃ q, isX ts R u = q := ⟨_, rfl⟩
  rw [hq] at k ⊢
  go_enter Tryz.func69, Tryz.ntmps69
  cases q
  · have hn := take_no hq
    rw [hn]
    clear hn hq
    go_wp2_with fail
    refine k.out.mono ?_
    rintro e w1 ⟨rfl, hb⟩
    have hb := Lib.hid hb
    clear k
    go_wp2_with fail
    go_ret
    exact ⟨rfl, h.out.below hb.out, Bar.of_below hb.out⟩
  · obtain ⟨st, rfl, hi, hn⟩ := isX_ok hq
    rw [hn]
    clear hn hq
    have hi := Lib.hid hi
    go_wp2_with fail
    refine k.out.mono ?_
    rintro e w1 ⟨rfl, hb⟩
    have hb := Lib.hid hb
    clear k
    have h2 := Lib.hid (PqW.below (show PqW B G tv ts en ov d w nv st .nilIface from h.out) hb.out)
    have h3 := h2.out.i
    have hf := h2.out.fg
    have hgl : G < w1.heap.size := by have := h2.out.gB; have := h2.out.bl; omega
    have hr1 : (st.i : Int) ≤ 1000000 := by have := h2.out.il; have := h2.out.tl; omega
    have hr0 : (0 : Int) ≤ (st.i : Int) := by omega
    go_wp2_with fail
    go_ret
    have h4 := h2.out.setI (st.i + 1) hi.out
    push_cast at h4
    exact ⟨rfl, h4.1, (Bar.of_below (S := fun k => k = G) hb.out).trans h4.2 fun _ _ hs => hs⟩
theorem wanted_in (g : Nat) : ErIn (.iface 76 (.pointer (some ⟨g, 0, none⟩))) 403 := .inl ⟨rfl, g, rfl⟩
set_option maxRecDepth 100000 in
set_option maxHeartbeats 2000000 in
theorem take_any (B G : Nat) (tv : Value) (ts : List Tk) (en : Int) (ov : Value) (d : Int) (w : World) (nv : Value) (R : Except PE PS) (u : List UInt8) (h : Hid (PqX B G tv ts en ov d w nv R)) :
    Calls Tryz.prog 44 #[.pointer (some ⟨G, 0, none⟩), .string (bs u)] w fun e w' => e = .returned (.tuple #[]) ∧ PqP B G tv ts en ov d w nv (R >>= wantP ts en u) w' := by
  have k := Lib.hid (skip_any B G tv ts en ov d w nv R u h)
  obtain ⟨q, hq⟩ : ∃ q, isX ts R u = q := ⟨_, rfl⟩
  rw [hq] at k
  go_enter Tryz.func44, Tryz.ntmps44
  cases q
  · rw [take_no hq] at k
    rw [want_no hq]
    clear hq
    go_wp2_with fail
    refine k.out.mono ?_
    rintro e w1 ⟨rfl, h2⟩
    have h2 := Lib.hid h2
    clear k
    have k2 := Lib.hid (pfail_any B G tv ts en ov d _ nv R 403 _ _ (wanted_in w1.heap.size) (Lib.hid (h2.out.1.below (below_alc w1 (.cells #[.string (bs u)] 78)))))
    go_wp2_with fail
    refine k2.out.mono ?_
    rintro e w2 ⟨rfl, h3⟩
    have h3 := Lib.hid h3
    clear k2
    go_wp2_with fail
    go_end0
    exact ⟨rfl, h3.out.1, (h2.out.2.next (below_alc w1 _)).trans h3.out.2 fun _ _ hs => hs⟩
  · rw [want_yes hq]
    clear hq
    go_wp2_with fail
    refine k.out.mono ?_
    rintro e w1 ⟨rfl, h2⟩
    have h2 := Lib.hid h2
    clear k
    go_wp2_with fail
    go_end0
    exact ⟨rfl, h2.out⟩
end Go.Proofs.YtnhfbbognjdnpaaGreatDoor

/- The program's parser: a name, a node. -/
namespace Go.Proofs.YtnhfbbognjdnpaaGreatDoor
open Go.RowKit
set_option linter.unusedVariables false
set_option linter.unusedSimpArgs false

theorem name_no {ts : List Tk} {en : Int} {R : Except PE PS} (h : (peekX ts en R).kind ≠ 0) : stX (R >>= nameP ts en) = failX ts en R 403 ∧ ∀ y st', (R >>= nameP ts en) ≠ .ok (y, st') := by
  cases R with
  | error e => exact ⟨rfl, fun y st' hc => by cases hc⟩
  | ok st =>
    have e : nameP ts en st = .error (403, hereP ts en st.i) := by
      rw [peek_ok] at h
      unfold nameP
      cases hg : ts[st.i]? with
      | none => rfl
      | some t => rw [hg] at h; exact if_neg h
    exact ⟨by show stX (nameP ts en st) = _; rw [e]; rfl, fun y st' hc => by have hc : nameP ts en st = _ := hc; rw [e] at hc; cases hc⟩
theorem name_yes {ts : List Tk} {en : Int} {R : Except PE PS} (h : (peekX ts en R).kind = 0) : ∃ st, R = .ok st ∧ st.i < ts.length ∧ (R >>= nameP ts en) = .ok (bs (peekX ts en R).text, ⟨st.i + 1, st.ns⟩) := by
  cases R with
  | error e => cases h
  | ok st =>
    rw [peek_ok] at h ⊢
    cases hg : ts[st.i]? with
    | none => rw [hg] at h; cases h
    | some t =>
      rw [hg] at h
      refine ⟨st, rfl, (List.getElem?_eq_some_iff.1 hg).1, ?_⟩
      show nameP ts en st = _
      unfold nameP
      rw [hg]
      exact if_pos h
/-- a name, or an error. -/
def PqM (B G : Nat) (tv : Value) (ts : List Tk) (en : Int) (ov : Value) (d : Int) (w : World) (nv : Value) (R : Except PE (ByteArray × PS)) (e : Ending) (w' : World) : Prop := ∃ x, e = .returned (.string x) ∧ PqP B G tv ts en ov d w nv (stX R) w' ∧ ∀ y st', R = .ok (y, st') → x = y
set_option maxRecDepth 100000 in
set_option maxHeartbeats 2000000 in
theorem pname_any (B G : Nat) (tv : Value) (ts : List Tk) (en : Int) (ov : Value) (d : Int) (w : World) (nv : Value) (R : Except PE PS) (h : Hid (PqX B G tv ts en ov d w nv R)) :
    Calls Tryz.prog 45 #[.pointer (some ⟨G, 0, none⟩)] w (PqM B G tv ts en ov d w nv (R >>= nameP ts en)) := by
  have k := Lib.hid (peek_any B G tv ts en ov d w nv R h)
  have hno := Lib.hid (name_no (ts := ts) (en := en) (R := R))
  have hyes := Lib.hid (name_yes (ts := ts) (en := en) (R := R))
  generalize peekX ts en R = t at k hno hyes
  unfold tkV at k
  obtain ⟨tk, tx, tn, ta⟩ := t
  dsimp only at k hno hyes
  have f0 := tkf0; have f1 := tkf1
  go_enter Tryz.func45, Tryz.ntmps45
  go_wp2_with fail
  refine k.out.mono ?_
  rintro e w1 ⟨rfl, hb⟩
  have hb := Lib.hid hb
  clear k
  by_cases h0 : tk = 0
  · obtain ⟨st, rfl, hi, hn⟩ := hyes.out h0
    subst h0
    have hn := Lib.hid hn
    clear hyes hno
    have hi := Lib.hid hi
    have h2 := Lib.hid (PqW.below (show PqW B G tv ts en ov d w nv st .nilIface from h.out) hb.out)
    have h3 := h2.out.i
    have hf := h2.out.fg
    have hgl : G < w1.heap.size := by have := h2.out.gB; have := h2.out.bl; omega
    have hr1 : (st.i : Int) ≤ 1000000 := by have := h2.out.il; have := h2.out.tl; omega
    have hr0 : (0 : Int) ≤ (st.i : Int) := by omega
    go_wp2_with fail
    go_ret
    have h4 := h2.out.setI (st.i + 1) hi.out
    push_cast at h4
    refine ⟨_, rfl, ⟨?_, ((Bar.of_below (S := fun k => k = G) hb.out).trans h4.2 fun _ _ hs => hs).next (below_alc _ _)⟩, ?_⟩
    · rw [hn.out]; exact PqW.below h4.1 (below_alc _ _)
    · intro y st' e
      rw [hn.out] at e
      injection e with e; injection e
  · have hn := Lib.hid (hno.out h0)
    have e0 : (tk == 0) = false := beq_eq_false_iff_ne.2 h0
    clear hyes hno h0
    have k2 := Lib.hid (pfail_any B G tv ts en ov d _ nv R 403 _ _ (wanted_in (w1.heap.size + 1)) (Lib.hid (((h.out.below hb.out).below (below_alc w1 (.cells #[.int .i64 tk, .string (bs tx), .int .i64 tn, .int .i64 ta] 95))).below (below_alc _ (.cells #[.string ⟨#[97, 32, 110, 97, 109, 101]⟩] 78)))))
    go_wp2_with fail
    refine k2.out.mono ?_
    rintro e w2 ⟨rfl, h3⟩
    have h3 := Lib.hid h3
    clear k2
    go_wp2_with fail
    go_ret
    exact ⟨_, rfl, ⟨by rw [hn.out.1]; exact h3.out.1, (((Bar.of_below (S := fun k => k = G) hb.out).next (below_alc w1 _)).next (below_alc _ _)).trans h3.out.2 fun _ _ hs => hs⟩, fun y st' e => absurd e (hn.out.2 y st')⟩
end Go.Proofs.YtnhfbbognjdnpaaGreatDoor

/- The program's parser: a node. -/
namespace Go.Proofs.YtnhfbbognjdnpaaGreatDoor
open Go.RowKit
set_option linter.unusedVariables false
set_option linter.unusedSimpArgs false

theorem step_ndr {ops : Array Oper} {o : Oper} {a : Act} {K : Act → World → Prop} {Q : Exit → Act → World → Prop} {E : Prop} (hgd : o.guard = none) (s x : Operand) (W : World) (B : Nat) (hB : B ≤ W.heap.size) (ov : Value) (l ys : List Nd) (arr : Array Value)
    (ho : o.op = .call { callee := .builtin .append, args := #[s, x], argTypes := #[23, 23] })
    (hs : a.eval s = ov) (m : Nat) (hm : m = ys.length) (hx : a.eval x = .slice (some ⟨W.heap.size, 0, none⟩) m m) (harr : arr.toList = ndL ys) (hown : OwnN B W ov l) (hlen : l.length + ys.length ≤ 1000000)
    (h : ∀ v' w', OwnN B w' v' (l ++ ys) → Bar (fun k => ov.ownBlock = some k) W w' → (∀ g, v'.ownBlock = some g → ov.ownBlock = some g ∨ W.heap.size ≤ g) → K (a.put o.dst v') w') :
    if Region.wanted o (yielded ops a.tmps) = true then Oper.wp Tryz.prog o a (W.alloc (.cells arr 66)) K Q else E := by
  subst hm
  have hw : Region.wanted o (yielded ops a.tmps) = true := by simp [Region.wanted, hgd]
  rw [if_pos hw]
  obtain ⟨v', w', hr, h1, h2, h3⟩ := run_appN2 (W := W.alloc (.cells arr 66)) B (by simp; omega) o.type ov l (hown.below (below_alc W _)) ⟨W.heap.size, 0, none⟩ ys.length ys.length ys rfl (fun j u hj => by
    have e : (⟨W.heap.size, 0, none⟩ : Addr).add j = ⟨W.heap.size, j, none⟩ := by simp [Addr.add]; try omega
    rw [e, World.cell?_alloc_at _ _ _ _ rfl, ← hj, ← harr, Array.getElem?_toList]) hlen
  unfold Oper.wp
  simp [execOp, ho, resolve, invoke, builtin, hs, hx, hr, Result.andThen]
  refine h v' w' h1 ?_ fun g hg => ?_
  · have hsz := h2.size
    simp at hsz
    exact ⟨h2.os, h2.tape, h2.output, by omega, fun k hk hn => (h2.block k (by simp; omega) hn).trans (Below.heap_alloc W _ k (by omega))⟩
  · rcases h3 g hg with h | h
    · exact .inl h
    · exact .inr (by simp at h; omega)
/-- a row of nodes that was put behind another. -/
theorem PqW.setN {B G : Nat} {tv : Value} {ts : List Tk} {en : Int} {ov : Value} {d : Int} {w w2 : World} {nv nv' : Value} {st : PS} {ev : Value} {ns' : List Nd} (h : PqW B G tv ts en ov d w nv st ev) (hb : Bar (fun k => nv.ownBlock = some k) w w2) (ho : OwnN B w2 nv' ns') (hh : PHop nv nv' w) (hl : ns'.length ≤ 512) :
    PqW B G tv ts en ov d (w2.setCell ⟨G, 5, none⟩ nv') nv' ⟨st.i, ns'⟩ ev ∧ Stp G w nv (w2.setCell ⟨G, 5, none⟩ nv') nv' := by
  have ne : ∀ a b : Nat, a ≠ b → (⟨G, a, none⟩ : Addr) ≠ ⟨G, b, none⟩ := fun a b hab e => by injection e with _ e2 _; exact hab e2
  have hB := fun k hk => (own_lt h.own k hk).1
  have hGn : ¬ nv.ownBlock = some G := fun e => by have := hB G e; have := h.gB; omega
  have hb2 : Bar (fun k => k = G) w2 (w2.setCell ⟨G, 5, none⟩ nv') := Bar.set (S := fun k => k = G) ⟨G, 5, none⟩ _ rfl
  have hsz := hb.size
  refine ⟨⟨setO (hb.cell h.t hGn) (ne _ _ (by decide)), setO (hb.cell h.e hGn) (ne _ _ (by decide)), setO (hb.cell h.i hGn) (ne _ _ (by decide)), setO (hb.cell h.d hGn) (ne _ _ (by decide)), setO (hb.cell h.o hGn) (ne _ _ (by decide)), setS (hb.cell h.n hGn), setO (hb.cell h.r hGn) (ne _ _ (by decide)), h.gB, by have := h.bl; simp; omega, fun o => ?_, (h.tk.bar hb (fun k hk _ e => by have := hB k e; omega)).bar hb2 (fun k _ hk => hk), Bar.own hb2 ho (fun k hk e => by have := (own_lt ho k hk).1; have := h.gB; omega), h.il, hl, h.tl, fun k hk => by have := h.ol k hk; simp; omega⟩, ?_, ?_⟩
  · simp only [World.frozen?_setCell]
    rw [hb.frozen (a := ⟨G, o, none⟩) (by have := h.gB; have := h.bl; show G < _; omega) hGn]; exact h.fg o
  · exact (Bar.trans (S := PFr G nv) ((Bar.refl _ _).trans hb fun _ _ hs => .inr hs) hb2 fun _ _ hs => .inl hs)
  · exact hh
/-- a node's place, or an error. -/
def PqN (B G : Nat) (tv : Value) (ts : List Tk) (en : Int) (ov : Value) (d : Int) (w : World) (nv : Value) (R : Except PE (Nat × PS)) (e : Ending) (w' : World) : Prop := ∃ v nv', e = .returned (.int .i64 v) ∧ PqX B G tv ts en ov d w' nv' (stX R) ∧ Stp G w nv w' nv' ∧ ∀ x st', R = .ok (x, st') → v = x
theorem own_sl {B : Nat} {w : World} {v : Value} {l : List Nd} (h : OwnN B w v l) : ∃ a c, v = .slice a l.length c := by
  rcases h.cases with ⟨rfl, rfl⟩ | ⟨g, c, rfl, _⟩
  · exact ⟨none, 0, rfl⟩
  · exact ⟨_, c, rfl⟩
theorem PqX.sl {B G : Nat} {tv : Value} {ts : List Tk} {en : Int} {ov : Value} {d : Int} {w : World} {nv : Value} {R : Except PE PS} (h : PqX B G tv ts en ov d w nv R) : ∃ st ev, PqW B G tv ts en ov d w nv st ev ∧ ∀ s, R = .ok s → st = s ∧ ev = .nilIface := by
  cases R with
  | error e => obtain ⟨st, ev, h1, _⟩ := h; exact ⟨st, ev, h1, fun s hs => by cases hs⟩
  | ok st => exact ⟨st, _, h, fun s hs => by injection hs with hs; exact ⟨hs, rfl⟩⟩
set_option maxRecDepth 100000 in
set_option maxHeartbeats 2000000 in
/-- behind an error no node is put. -/
theorem node_err (B G : Nat) (tv : Value) (ts : List Tk) (en : Int) (ov : Value) (d : Int) (w : World) (nv : Value) (e : PE) (t : Nd) (h : Hid (PqX B G tv ts en ov d w nv (.error e))) :
    Calls Tryz.prog 82 #[.pointer (some ⟨G, 0, none⟩), .agg #[.int .i64 t.k, .int .i64 t.a, .int .i64 t.b, .int .i64 t.c, .int .i64 t.n, .string t.nm, .string t.x, .string t.y, .string t.z, .int .i64 t.p]] w (PqN B G tv ts en ov d w nv (.error e)) := by
  have k := Lib.hid (fail_err B G tv ts en ov d _ nv 26 (.int .i64 402) e (Lib.hid (h.out.below (below_alc w (.cells #[.int .i64 t.k, .int .i64 t.a, .int .i64 t.b, .int .i64 t.c, .int .i64 t.n, .string t.nm, .string t.x, .string t.y, .string t.z, .int .i64 t.p] 66)))))
  obtain ⟨st, ev, h1, F, v, rfl, _⟩ := h.out
  have h1 := Lib.hid h1
  obtain ⟨a, c, rfl⟩ := own_sl h1.out.own
  have hn := h1.out.n
  have hr := h1.out.r
  have hgl : G < w.heap.size := by have := h1.out.gB; have := h1.out.bl; omega
  have hnl : (st.ns.length : Int) ≤ 512 := by have := h1.out.nl; omega
  have hn0 := fun (u : Value) (W : World) => err_eql 43 u W
  have hn1 := nil_eql
  go_enter Tryz.func82, Tryz.ntmps82
  by_cases h0 : st.ns.length = 512
  · rw [h0] at hn
    clear hnl h0
    go_wp2_with fail
    refine k.out.mono ?_
    rintro e' w1 ⟨rfl, h2⟩
    clear hn hr h1 k
    obtain ⟨st1, ev1, h3, F1, v1, rfl, _⟩ := h2.1
    obtain ⟨a1, c1, e1⟩ := own_sl h3.own
    have h2 := Lib.hid h2
    have hn := h3.n
    have hr := h3.r
    have hgl : G < w1.heap.size := by have := h3.gB; have := h3.bl; omega
    clear h3 e1
    go_wp2_with fail
    go_ret
    exact ⟨_, _, rfl, h2.out.1, (Stp.below (below_alc w _)).trans (Stp.of h2.out.2), fun x st' hc => by cases hc⟩
  · have e0 : ((st.ns.length : Int) == 512) = false := beq_eq_false_iff_ne.2 (by omega)
    clear h0
    go_wp2_with fail
    go_ret
    exact ⟨_, _, rfl, h.out.below (below_alc w _), Stp.below (below_alc w _), fun x st' hc => by cases hc⟩
set_option maxRecDepth 100000 in
set_option maxHeartbeats 2000000 in
theorem node_full (B G : Nat) (tv : Value) (ts : List Tk) (en : Int) (ov : Value) (d : Int) (w : World) (nv : Value) (st : PS) (t : Nd) (h : Hid (PqW B G tv ts en ov d w nv st .nilIface)) (hf : st.ns.length = 512) :
    Calls Tryz.prog 82 #[.pointer (some ⟨G, 0, none⟩), .agg #[.int .i64 t.k, .int .i64 t.a, .int .i64 t.b, .int .i64 t.c, .int .i64 t.n, .string t.nm, .string t.x, .string t.y, .string t.z, .int .i64 t.p]] w (PqN B G tv ts en ov d w nv (.error (402, hereP ts en st.i))) := by
  obtain ⟨a, c, rfl⟩ := own_sl h.out.own
  have k := Lib.hid (fail_ok B G tv ts en ov d _ _ st 402 26 (.int .i64 402) (.inr ⟨by decide, rfl⟩) (Lib.hid (h.out.below (below_alc w (.cells #[.int .i64 t.k, .int .i64 t.a, .int .i64 t.b, .int .i64 t.c, .int .i64 t.n, .string t.nm, .string t.x, .string t.y, .string t.z, .int .i64 t.p] 66)))))
  have hn := h.out.n
  have hr := h.out.r
  rw [hf] at hn
  have hgl : G < w.heap.size := by have := h.out.gB; have := h.out.bl; omega
  have hn0 := fun (u : Value) (W : World) => err_eql 43 u W
  have hn1 := nil_eql
  go_enter Tryz.func82, Tryz.ntmps82
  go_wp2_with fail
  refine k.out.mono ?_
  rintro e' w1 ⟨rfl, h2⟩
  clear hn hr k
  obtain ⟨st1, ev1, h3, F1, v1, rfl, _⟩ := h2.1
  have h2 := Lib.hid h2
  obtain ⟨a1, c1, e1⟩ := own_sl h3.own
  have hn := h3.n
  have hr := h3.r
  have hgl : G < w1.heap.size := by have := h3.gB; have := h3.bl; omega
  clear h3 e1
  go_wp2_with fail
  go_ret
  exact ⟨_, _, rfl, h2.out.1, (Stp.below (below_alc w _)).trans (Stp.of h2.out.2), fun x st' hc => by cases hc⟩
/-- what the region of the append stands on. -/
theorem nd_box (w W : World) (t : Nd) (hW : w.alloc (.cells #[.int .i64 t.k, .int .i64 t.a, .int .i64 t.b, .int .i64 t.c, .int .i64 t.n, .string t.nm, .string t.x, .string t.y, .string t.z, .int .i64 t.p] 66) = W) : (W.cell? ⟨w.heap.size, 0, none⟩ = some (.int .i64 t.k) ∧ W.cell? ⟨w.heap.size, 1, none⟩ = some (.int .i64 t.a) ∧ W.cell? ⟨w.heap.size, 2, none⟩ = some (.int .i64 t.b) ∧ W.cell? ⟨w.heap.size, 3, none⟩ = some (.int .i64 t.c) ∧ W.cell? ⟨w.heap.size, 4, none⟩ = some (.int .i64 t.n) ∧ W.cell? ⟨w.heap.size, 5, none⟩ = some (.string t.nm) ∧ W.cell? ⟨w.heap.size, 6, none⟩ = some (.string t.x) ∧ W.cell? ⟨w.heap.size, 7, none⟩ = some (.string t.y) ∧ W.cell? ⟨w.heap.size, 8, none⟩ = some (.string t.z) ∧ W.cell? ⟨w.heap.size, 9, none⟩ = some (.int .i64 t.p)) ∧ Below w.heap.size w W ∧ w.heap.size < W.heap.size := by
  subst hW
  refine ⟨⟨?_, ?_, ?_, ?_, ?_, ?_, ?_, ?_, ?_, ?_⟩, below_alc _ _, by simp⟩ <;> (rw [World.cell?_alloc_at _ _ _ _ rfl]; rfl)
set_option maxRecDepth 100000 in
set_option maxHeartbeats 4000000 in
theorem node_ok (B G : Nat) (tv : Value) (ts : List Tk) (en : Int) (ov : Value) (d : Int) (w : World) (nv : Value) (st : PS) (t : Nd) (h : Hid (PqW B G tv ts en ov d w nv st .nilIface)) (hf : st.ns.length < 512) :
    Calls Tryz.prog 82 #[.pointer (some ⟨G, 0, none⟩), .agg #[.int .i64 t.k, .int .i64 t.a, .int .i64 t.b, .int .i64 t.c, .int .i64 t.n, .string t.nm, .string t.x, .string t.y, .string t.z, .int .i64 t.p]] w (PqN B G tv ts en ov d w nv (.ok (st.ns.length, ⟨st.i, st.ns ++ [t]⟩))) := by
  obtain ⟨a, c, rfl⟩ := own_sl h.out.own
  have hn := h.out.n
  have hr := h.out.r
  have hgl : G < w.heap.size := by have := h.out.gB; have := h.out.bl; omega
  have hn1 := nil_eql
  have e0 : ((st.ns.length : Int) == 512) = false := beq_eq_false_iff_ne.2 (by omega)
  have hf := Lib.hid hf
  go_enter Tryz.func82, Tryz.ntmps82
  go_upto_region 4 with fail
  obtain ⟨W0, hW0⟩ : ∃ W, w.alloc (.cells #[.int .i64 t.k, .int .i64 t.a, .int .i64 t.b, .int .i64 t.c, .int .i64 t.n, .string t.nm, .string t.x, .string t.y, .string t.z, .int .i64 t.p] 66) = W := ⟨_, rfl⟩
  obtain ⟨⟨y0, y1, y2, y3, y4, y5, y6, y7, y8, y9⟩, hb0, hs0⟩ := nd_box w W0 t hW0
  rw [hW0]
  clear hW0 hn hr e0 hn1
  have h2 := Lib.hid (h.out.below hb0)
  have hb0 := Lib.hid hb0
  have hn := h2.out.n
  have hfr := h2.out.fg
  have hgW : G < W0.heap.size := by omega
  have hq : Hid ((st.ns.length + [t].length) ≤ 1000000) := Lib.hid (by have := hf.out; simp; omega)
  have hBW : B ≤ W0.heap.size := h2.out.bl
  have hnG : ¬ (Value.slice a st.ns.length c).ownBlock = some G := fun e => by have := (own_lt h.out.own G e).1; have := h.out.gB; omega
  have hfin : Hid (∀ a2 c2 w2, OwnN B w2 (.slice a2 (st.ns.length + 1) c2) (st.ns ++ [t]) → Bar (fun k => (Value.slice a st.ns.length c).ownBlock = some k) W0.drew w2 → (∀ g, (Value.slice a2 (st.ns.length + 1) c2).ownBlock = some g → (Value.slice a st.ns.length c).ownBlock = some g ∨ W0.drew.heap.size ≤ g) → ∀ v : Int, v = st.ns.length → PqN B G tv ts en ov d w (.slice a st.ns.length c) (.ok (st.ns.length, ⟨st.i, st.ns ++ [t]⟩)) (.returned (.int .i64 v)) (w2.setCell ⟨G, 5, none⟩ (.slice a2 (st.ns.length + 1) c2))) := Lib.hid fun a2 c2 w2 k1 k2 k3 v hv => by
    have hd : Below W0.heap.size W0 W0.drew := (Below.refl _ _).drew
    obtain ⟨k4, k5⟩ := PqW.setN (h2.out.below hd) k2 k1 k3 (by have := hf.out; simp; omega)
    exact ⟨v, _, rfl, k4, ((Stp.below hb0.out).next hd).trans k5, fun x st' e => by injection e with e; injection e with e _; rw [hv, e]⟩
  have hnl : (st.ns.length : Int) ≤ 512 := by have := hf.out; omega
  have hnl0 : (0 : Int) ≤ (st.ns.length : Int) := by omega
  go_region_law ((refine step_ndr rfl (.tmp 23) (.tmp 25) W0.drew B (show B ≤ W0.drew.heap.size from hBW) (.slice a st.ns.length c) st.ns [t] _ rfl rfl 1 rfl rfl rfl (show OwnN B W0.drew (.slice a st.ns.length c) st.ns from h2.out.own) hq.out ?_; intro v' w2 hown2 hb2 hop2; obtain ⟨a2, c2, rfl⟩ := own_sl hown2; have hc2 : w2.cell? ⟨G, 5, none⟩ = some (.slice a st.ns.length c) := hb2.cell hn hnG; rw [List.length_append, List.length_singleton] at hown2 hop2; have hown2 := Lib.hid hown2; have hb2' := Lib.hid hb2; have hop2 := Lib.hid hop2; have hgw2 : G < w2.heap.size := Nat.lt_of_lt_of_le hgW hb2.size; have hf2 : w2.frozen? ⟨G, 5, none⟩ = false := (hb2.frozen (a := ⟨G, 5, none⟩) hgW hnG).trans (hfr 5)))
  all_goals
    clear hb2 hn hfr hgW y0 y1 y2 y3 y4 y5 y6 y7 y8 y9
    go_wp2_with fail
    go_ret
    exact hfin.out _ _ _ hown2.out hb2'.out hop2.out _ (by omega)
theorem node_any (B G : Nat) (tv : Value) (ts : List Tk) (en : Int) (ov : Value) (d : Int) (w : World) (nv : Value) (R : Except PE PS) (t : Nd) (h : Hid (PqX B G tv ts en ov d w nv R)) :
    Calls Tryz.prog 82 #[.pointer (some ⟨G, 0, none⟩), .agg #[.int .i64 t.k, .int .i64 t.a, .int .i64 t.b, .int .i64 t.c, .int .i64 t.n, .string t.nm, .string t.x, .string t.y, .string t.z, .int .i64 t.p]] w (PqN B G tv ts en ov d w nv (R >>= putP ts en t)) := by
  cases R with
  | error e => exact node_err B G tv ts en ov d w nv e t h
  | ok st =>
    have h1 : PqW B G tv ts en ov d w nv st .nilIface := h.out
    show Calls _ _ _ _ (PqN B G tv ts en ov d w nv (putP ts en t st))
    unfold putP
    by_cases hf : 512 ≤ st.ns.length
    · rw [if_pos hf]
      exact node_full B G tv ts en ov d w nv st t (Lib.hid h1) (by have := h1.nl; omega)
    · rw [if_neg hf]
      exact node_ok B G tv ts en ov d w nv st t (Lib.hid h1) (by omega)
end Go.Proofs.YtnhfbbognjdnpaaGreatDoor

/- The program's parser: a node's own variable. -/
namespace Go.Proofs.YtnhfbbognjdnpaaGreatDoor
open Go.RowKit
set_option linter.unusedVariables false
set_option linter.unusedSimpArgs false

/-- a variable of a call that holds a node. -/
structure NdBox (G : Nat) (w : World) (nv : Value) (b : Nat) (t : Nd) : Prop where
  c0 : w.cell? ⟨b, 0, none⟩ = some (.int .i64 t.k)
  c1 : w.cell? ⟨b, 1, none⟩ = some (.int .i64 t.a)
  c2 : w.cell? ⟨b, 2, none⟩ = some (.int .i64 t.b)
  c3 : w.cell? ⟨b, 3, none⟩ = some (.int .i64 t.c)
  c4 : w.cell? ⟨b, 4, none⟩ = some (.int .i64 t.n)
  c5 : w.cell? ⟨b, 5, none⟩ = some (.string t.nm)
  c6 : w.cell? ⟨b, 6, none⟩ = some (.string t.x)
  c7 : w.cell? ⟨b, 7, none⟩ = some (.string t.y)
  c8 : w.cell? ⟨b, 8, none⟩ = some (.string t.z)
  c9 : w.cell? ⟨b, 9, none⟩ = some (.int .i64 t.p)
  fz : ∀ o, w.frozen? ⟨b, o, none⟩ = false
  gb : b ≠ G
  ob : nv.ownBlock ≠ some b
  lt : b < w.heap.size
  ty : TyAt w b 66
theorem NdBox.step {G b : Nat} {w w' : World} {nv nv' : Value} {t : Nd} (h : NdBox G w nv b t) (hs : Stp G w nv w' nv') : NdBox G w' nv' b t := by
  have hp : ¬ PFr G nv b := fun hc => by rcases hc with hc | hc; exact h.gb hc; exact h.ob hc
  exact ⟨hs.1.cell h.c0 hp, hs.1.cell h.c1 hp, hs.1.cell h.c2 hp, hs.1.cell h.c3 hp, hs.1.cell h.c4 hp, hs.1.cell h.c5 hp, hs.1.cell h.c6 hp, hs.1.cell h.c7 hp, hs.1.cell h.c8 hp, hs.1.cell h.c9 hp, fun o => by rw [hs.1.frozen (a := ⟨b, o, none⟩) h.lt hp]; exact h.fz o, h.gb, fun e => by rcases hs.2 b e with e | e; exact h.ob e; have := h.lt; omega, by have := hs.1.size; have := h.lt; omega, h.ty.bar hs.1 hp⟩
theorem NdBox.set0 {G b : Nat} {w : World} {nv : Value} {t : Nd} (h : NdBox G w nv b t) (v : Int) : NdBox G (w.setCell ⟨b, 0, none⟩ (.int .i64 v)) nv b { t with k := v } := by
  have ne : ∀ a c : Nat, a ≠ c → (⟨b, a, none⟩ : Addr) ≠ ⟨b, c, none⟩ := fun a c hab e => by injection e with _ e2 _; exact hab e2
  exact ⟨setS h.c0, setO h.c1 (ne _ _ (by decide)), setO h.c2 (ne _ _ (by decide)), setO h.c3 (ne _ _ (by decide)), setO h.c4 (ne _ _ (by decide)), setO h.c5 (ne _ _ (by decide)), setO h.c6 (ne _ _ (by decide)), setO h.c7 (ne _ _ (by decide)), setO h.c8 (ne _ _ (by decide)), setO h.c9 (ne _ _ (by decide)), fun o => by simp only [World.frozen?_setCell]; exact h.fz o, h.gb, h.ob, by have := h.lt; simpa using this, h.ty.set _ _⟩
theorem NdBox.set1 {G b : Nat} {w : World} {nv : Value} {t : Nd} (h : NdBox G w nv b t) (v : Int) : NdBox G (w.setCell ⟨b, 1, none⟩ (.int .i64 v)) nv b { t with a := v } := by
  have ne : ∀ a c : Nat, a ≠ c → (⟨b, a, none⟩ : Addr) ≠ ⟨b, c, none⟩ := fun a c hab e => by injection e with _ e2 _; exact hab e2
  exact ⟨setO h.c0 (ne _ _ (by decide)), setS h.c1, setO h.c2 (ne _ _ (by decide)), setO h.c3 (ne _ _ (by decide)), setO h.c4 (ne _ _ (by decide)), setO h.c5 (ne _ _ (by decide)), setO h.c6 (ne _ _ (by decide)), setO h.c7 (ne _ _ (by decide)), setO h.c8 (ne _ _ (by decide)), setO h.c9 (ne _ _ (by decide)), fun o => by simp only [World.frozen?_setCell]; exact h.fz o, h.gb, h.ob, by have := h.lt; simpa using this, h.ty.set _ _⟩
theorem NdBox.set2 {G b : Nat} {w : World} {nv : Value} {t : Nd} (h : NdBox G w nv b t) (v : Int) : NdBox G (w.setCell ⟨b, 2, none⟩ (.int .i64 v)) nv b { t with b := v } := by
  have ne : ∀ a c : Nat, a ≠ c → (⟨b, a, none⟩ : Addr) ≠ ⟨b, c, none⟩ := fun a c hab e => by injection e with _ e2 _; exact hab e2
  exact ⟨setO h.c0 (ne _ _ (by decide)), setO h.c1 (ne _ _ (by decide)), setS h.c2, setO h.c3 (ne _ _ (by decide)), setO h.c4 (ne _ _ (by decide)), setO h.c5 (ne _ _ (by decide)), setO h.c6 (ne _ _ (by decide)), setO h.c7 (ne _ _ (by decide)), setO h.c8 (ne _ _ (by decide)), setO h.c9 (ne _ _ (by decide)), fun o => by simp only [World.frozen?_setCell]; exact h.fz o, h.gb, h.ob, by have := h.lt; simpa using this, h.ty.set _ _⟩
theorem NdBox.set3 {G b : Nat} {w : World} {nv : Value} {t : Nd} (h : NdBox G w nv b t) (v : Int) : NdBox G (w.setCell ⟨b, 3, none⟩ (.int .i64 v)) nv b { t with c := v } := by
  have ne : ∀ a c : Nat, a ≠ c → (⟨b, a, none⟩ : Addr) ≠ ⟨b, c, none⟩ := fun a c hab e => by injection e with _ e2 _; exact hab e2
  exact ⟨setO h.c0 (ne _ _ (by decide)), setO h.c1 (ne _ _ (by decide)), setO h.c2 (ne _ _ (by decide)), setS h.c3, setO h.c4 (ne _ _ (by decide)), setO h.c5 (ne _ _ (by decide)), setO h.c6 (ne _ _ (by decide)), setO h.c7 (ne _ _ (by decide)), setO h.c8 (ne _ _ (by decide)), setO h.c9 (ne _ _ (by decide)), fun o => by simp only [World.frozen?_setCell]; exact h.fz o, h.gb, h.ob, by have := h.lt; simpa using this, h.ty.set _ _⟩
theorem NdBox.set4 {G b : Nat} {w : World} {nv : Value} {t : Nd} (h : NdBox G w nv b t) (v : Int) : NdBox G (w.setCell ⟨b, 4, none⟩ (.int .i64 v)) nv b { t with n := v } := by
  have ne : ∀ a c : Nat, a ≠ c → (⟨b, a, none⟩ : Addr) ≠ ⟨b, c, none⟩ := fun a c hab e => by injection e with _ e2 _; exact hab e2
  exact ⟨setO h.c0 (ne _ _ (by decide)), setO h.c1 (ne _ _ (by decide)), setO h.c2 (ne _ _ (by decide)), setO h.c3 (ne _ _ (by decide)), setS h.c4, setO h.c5 (ne _ _ (by decide)), setO h.c6 (ne _ _ (by decide)), setO h.c7 (ne _ _ (by decide)), setO h.c8 (ne _ _ (by decide)), setO h.c9 (ne _ _ (by decide)), fun o => by simp only [World.frozen?_setCell]; exact h.fz o, h.gb, h.ob, by have := h.lt; simpa using this, h.ty.set _ _⟩
theorem NdBox.set5 {G b : Nat} {w : World} {nv : Value} {t : Nd} (h : NdBox G w nv b t) (v : ByteArray) : NdBox G (w.setCell ⟨b, 5, none⟩ (.string v)) nv b { t with nm := v } := by
  have ne : ∀ a c : Nat, a ≠ c → (⟨b, a, none⟩ : Addr) ≠ ⟨b, c, none⟩ := fun a c hab e => by injection e with _ e2 _; exact hab e2
  exact ⟨setO h.c0 (ne _ _ (by decide)), setO h.c1 (ne _ _ (by decide)), setO h.c2 (ne _ _ (by decide)), setO h.c3 (ne _ _ (by decide)), setO h.c4 (ne _ _ (by decide)), setS h.c5, setO h.c6 (ne _ _ (by decide)), setO h.c7 (ne _ _ (by decide)), setO h.c8 (ne _ _ (by decide)), setO h.c9 (ne _ _ (by decide)), fun o => by simp only [World.frozen?_setCell]; exact h.fz o, h.gb, h.ob, by have := h.lt; simpa using this, h.ty.set _ _⟩
theorem NdBox.set6 {G b : Nat} {w : World} {nv : Value} {t : Nd} (h : NdBox G w nv b t) (v : ByteArray) : NdBox G (w.setCell ⟨b, 6, none⟩ (.string v)) nv b { t with x := v } := by
  have ne : ∀ a c : Nat, a ≠ c → (⟨b, a, none⟩ : Addr) ≠ ⟨b, c, none⟩ := fun a c hab e => by injection e with _ e2 _; exact hab e2
  exact ⟨setO h.c0 (ne _ _ (by decide)), setO h.c1 (ne _ _ (by decide)), setO h.c2 (ne _ _ (by decide)), setO h.c3 (ne _ _ (by decide)), setO h.c4 (ne _ _ (by decide)), setO h.c5 (ne _ _ (by decide)), setS h.c6, setO h.c7 (ne _ _ (by decide)), setO h.c8 (ne _ _ (by decide)), setO h.c9 (ne _ _ (by decide)), fun o => by simp only [World.frozen?_setCell]; exact h.fz o, h.gb, h.ob, by have := h.lt; simpa using this, h.ty.set _ _⟩
theorem NdBox.set7 {G b : Nat} {w : World} {nv : Value} {t : Nd} (h : NdBox G w nv b t) (v : ByteArray) : NdBox G (w.setCell ⟨b, 7, none⟩ (.string v)) nv b { t with y := v } := by
  have ne : ∀ a c : Nat, a ≠ c → (⟨b, a, none⟩ : Addr) ≠ ⟨b, c, none⟩ := fun a c hab e => by injection e with _ e2 _; exact hab e2
  exact ⟨setO h.c0 (ne _ _ (by decide)), setO h.c1 (ne _ _ (by decide)), setO h.c2 (ne _ _ (by decide)), setO h.c3 (ne _ _ (by decide)), setO h.c4 (ne _ _ (by decide)), setO h.c5 (ne _ _ (by decide)), setO h.c6 (ne _ _ (by decide)), setS h.c7, setO h.c8 (ne _ _ (by decide)), setO h.c9 (ne _ _ (by decide)), fun o => by simp only [World.frozen?_setCell]; exact h.fz o, h.gb, h.ob, by have := h.lt; simpa using this, h.ty.set _ _⟩
theorem NdBox.set8 {G b : Nat} {w : World} {nv : Value} {t : Nd} (h : NdBox G w nv b t) (v : ByteArray) : NdBox G (w.setCell ⟨b, 8, none⟩ (.string v)) nv b { t with z := v } := by
  have ne : ∀ a c : Nat, a ≠ c → (⟨b, a, none⟩ : Addr) ≠ ⟨b, c, none⟩ := fun a c hab e => by injection e with _ e2 _; exact hab e2
  exact ⟨setO h.c0 (ne _ _ (by decide)), setO h.c1 (ne _ _ (by decide)), setO h.c2 (ne _ _ (by decide)), setO h.c3 (ne _ _ (by decide)), setO h.c4 (ne _ _ (by decide)), setO h.c5 (ne _ _ (by decide)), setO h.c6 (ne _ _ (by decide)), setO h.c7 (ne _ _ (by decide)), setS h.c8, setO h.c9 (ne _ _ (by decide)), fun o => by simp only [World.frozen?_setCell]; exact h.fz o, h.gb, h.ob, by have := h.lt; simpa using this, h.ty.set _ _⟩
theorem NdBox.set9 {G b : Nat} {w : World} {nv : Value} {t : Nd} (h : NdBox G w nv b t) (v : Int) : NdBox G (w.setCell ⟨b, 9, none⟩ (.int .i64 v)) nv b { t with p := v } := by
  have ne : ∀ a c : Nat, a ≠ c → (⟨b, a, none⟩ : Addr) ≠ ⟨b, c, none⟩ := fun a c hab e => by injection e with _ e2 _; exact hab e2
  exact ⟨setO h.c0 (ne _ _ (by decide)), setO h.c1 (ne _ _ (by decide)), setO h.c2 (ne _ _ (by decide)), setO h.c3 (ne _ _ (by decide)), setO h.c4 (ne _ _ (by decide)), setO h.c5 (ne _ _ (by decide)), setO h.c6 (ne _ _ (by decide)), setO h.c7 (ne _ _ (by decide)), setO h.c8 (ne _ _ (by decide)), setS h.c9, fun o => by simp only [World.frozen?_setCell]; exact h.fz o, h.gb, h.ob, by have := h.lt; simpa using this, h.ty.set _ _⟩
/-- a write to the variable. -/
theorem PqX.box {B G : Nat} {tv : Value} {ts : List Tk} {en : Int} {ov : Value} {d : Int} {w : World} {nv : Value} {R : Except PE PS} {b : Nat} {t : Nd} (h : PqX B G tv ts en ov d w nv R) (hx : NdBox G w nv b t) (hB : B ≤ b) (o : Nat) (v : Value) : PqX B G tv ts en ov d (w.setCell ⟨b, o, none⟩ v) nv R := by
  have hb : Bar (fun k => k = b) w (w.setCell ⟨b, o, none⟩ v) := Bar.set (S := fun k => k = b) ⟨b, o, none⟩ v rfl
  have k1 : ∀ st ev, PqW B G tv ts en ov d w nv st ev → PqW B G tv ts en ov d (w.setCell ⟨b, o, none⟩ v) nv st ev := fun st ev hw => hw.bar hb (fun e => hx.gb e.symm) (fun k hk _ e => by omega) (fun k hk e => hx.ob (e ▸ hk))
  cases R with
  | ok st => exact k1 st _ h
  | error e =>
    obtain ⟨st, ev, h1, h2⟩ := h
    exact ⟨st, ev, k1 st ev h1, h2.bar hb (fun k _ _ ht e => ht.ne hx.ty (by decide) e) (fun g hg => .inl hg)⟩
end Go.Proofs.YtnhfbbognjdnpaaGreatDoor

/- The program's parser: fun. -/
namespace Go.Proofs.YtnhfbbognjdnpaaGreatDoor
open Go.RowKit
set_option linter.unusedVariables false
set_option linter.unusedSimpArgs false

/-- a call that reads an expression as e does. -/
def ExC (B G : Nat) (tv : Value) (ts : List Tk) (en : Int) (ov : Value) (F : Nat) (d : Int) (f : PS → Except PE (Nat × PS)) : Prop := ∀ w nv R, PqX B G tv ts en ov d w nv R → Calls Tryz.prog F #[.pointer (some ⟨G, 0, none⟩)] w (PqN B G tv ts en ov d w nv (R >>= f))
theorem Stp.store {G : Nat} {w W : World} {nv nv' : Value} (h : Stp G w nv W nv') {b : Nat} (hb : w.heap.size ≤ b) (o : Nat) (v : Value) : Stp G w nv (W.setCell ⟨b, o, none⟩ v) nv' :=
  ⟨h.1.trans (Bar.set (S := fun k => k = b) ⟨b, o, none⟩ v rfl) fun k hk e => by omega, h.2⟩
theorem PqX.lt {B G : Nat} {tv : Value} {ts : List Tk} {en : Int} {ov : Value} {d : Int} {w : World} {nv : Value} {R : Except PE PS} (h : PqX B G tv ts en ov d w nv R) : G < B ∧ B ≤ w.heap.size ∧ ∀ k, nv.ownBlock = some k → k < w.heap.size := by
  obtain ⟨st, ev, h1, _⟩ := h.sl
  exact ⟨h1.gB, h1.bl, fun k hk => (own_lt h1.own k hk).2⟩
/-- a variable that was made. -/
theorem NdBox.new {B G : Nat} {tv : Value} {ts : List Tk} {en : Int} {ov : Value} {d : Int} {w : World} {nv : Value} {R : Except PE PS} (h : PqX B G tv ts en ov d w nv R) (t : Nd) : NdBox G (w.alloc (.cells #[.int .i64 t.k, .int .i64 t.a, .int .i64 t.b, .int .i64 t.c, .int .i64 t.n, .string t.nm, .string t.x, .string t.y, .string t.z, .int .i64 t.p] 66)) nv w.heap.size t := by
  obtain ⟨h1, h2, h3⟩ := h.lt
  obtain ⟨⟨y0, y1, y2, y3, y4, y5, y6, y7, y8, y9⟩, _, hs⟩ := nd_box w _ t rfl
  exact ⟨y0, y1, y2, y3, y4, y5, y6, y7, y8, y9, fun o => by simp [go_sem], by omega, fun e => by have := h3 _ e; omega, hs, TyAt.new _ _ _⟩
theorem fun_eq {ts : List Tk} {en : Int} {e : PS → Except PE (Nat × PS)} {beg : Int} {R : Except PE PS} {x : ByteArray} {a : Int} (hv1 : ∀ y st', (R >>= nameP ts en) = .ok (y, st') → x = y) (hv3 : ∀ n st', ((stX (R >>= nameP ts en) >>= wantP ts en sgArrow) >>= e) = .ok (n, st') → a = (n : Nat)) :
    (stX ((stX (R >>= nameP ts en) >>= wantP ts en sgArrow) >>= e) >>= putP ts en ⟨3, a, 0, 0, 0, ba0, x, ba0, ba0, beg⟩) = (R >>= funP ts en e beg) := by
  cases R with
  | error _ => rfl
  | ok st =>
    have h1 : (Except.ok st >>= nameP ts en) = nameP ts en st := rfl
    have h2 : (Except.ok st >>= funP ts en e beg) = funP ts en e beg st := rfl
    rw [h1] at hv1 hv3 ⊢
    rw [h2]; unfold funP
    cases hn : nameP ts en st with
    | error er => rfl
    | ok y =>
      obtain ⟨y, s1⟩ := y
      rw [hn] at hv3
      obtain rfl := hv1 _ _ hn
      have h3 : (stX (Except.ok (x, s1) : Except PE (ByteArray × PS)) >>= wantP ts en sgArrow) = wantP ts en sgArrow s1 := rfl
      rw [h3] at hv3 ⊢
      show _ = (wantP ts en sgArrow s1 >>= fun st => e st >>= fun a => putP ts en ⟨3, (a.1 : Nat), 0, 0, 0, ba0, x, ba0, ba0, beg⟩ a.2)
      cases hw : wantP ts en sgArrow s1 with
      | error er => rfl
      | ok s2 =>
        rw [hw] at hv3
        have h4 : ∀ {β : Type} (f : PS → Except PE β), (Except.ok s2 >>= f) = f s2 := fun f => rfl
        rw [h4] at hv3 ⊢
        rw [h4]
        cases he : e s2 with
        | error er => rfl
        | ok n =>
          obtain ⟨n, s3⟩ := n
          obtain rfl := hv3 _ _ he
          rfl
set_option maxRecDepth 100000 in
set_option maxHeartbeats 4000000 in
theorem function_any (B G : Nat) (tv : Value) (ts : List Tk) (en : Int) (ov : Value) (d : Int) (e : PS → Except PE (Nat × PS)) (kE : Hid (ExC B G tv ts en ov 29 d e)) (beg : Int) (w : World) (nv : Value) (R : Except PE PS) (h : Hid (PqX B G tv ts en ov d w nv R)) :
    Calls Tryz.prog 70 #[.pointer (some ⟨G, 0, none⟩), .int .i64 beg] w (PqN B G tv ts en ov d w nv (R >>= funP ts en e beg)) := by
  have hx0 := Lib.hid (NdBox.new h.out ⟨3, 0, 0, 0, 0, ⟨#[]⟩, ⟨#[]⟩, ⟨#[]⟩, ⟨#[]⟩, beg⟩)
  have k1 := Lib.hid (pname_any B G tv ts en ov d _ nv R (Lib.hid (h.out.below (below_alc w (.cells #[.int .i64 3, .int .i64 0, .int .i64 0, .int .i64 0, .int .i64 0, .string ⟨#[]⟩, .string ⟨#[]⟩, .string ⟨#[]⟩, .string ⟨#[]⟩, .int .i64 beg] 66)))))
  have hBw := Lib.hid h.out.lt.2.1
  go_enter Tryz.func70, Tryz.ntmps70
  go_wp2_with fail
  refine k1.out.mono ?_
  rintro e1 w1 ⟨x, rfl, ⟨hp1, hb1⟩, hv1⟩
  clear k1
  have hx1 := Lib.hid (hx0.out.step (Stp.of hb1))
  have hS1 := Lib.hid (show Stp G w nv w1 nv from (Stp.below (below_alc w (.cells #[.int .i64 3, .int .i64 0, .int .i64 0, .int .i64 0, .int .i64 0, .string ⟨#[]⟩, .string ⟨#[]⟩, .string ⟨#[]⟩, .string ⟨#[]⟩, .int .i64 beg] 66))).trans (Stp.of hb1))
  have hp1' := Lib.hid (hp1.box hx1.out hBw.out 6 (.string x))
  have hx1' := Lib.hid (hx1.out.set6 x)
  have hS1' := Lib.hid (hS1.out.store (Nat.le_refl w.heap.size) 6 (.string x))
  have hv1 := Lib.hid hv1
  have c6 := hx1.out.c6; have cf := hx1.out.fz; have cl := hx1.out.lt
  have k2 := Lib.hid (take_any B G tv ts en ov d _ nv _ sgArrow hp1')
  clear hb1 hp1 hx1 hS1 hx0
  go_wp2_with fail
  refine k2.out.mono ?_
  rintro e2 w2 ⟨rfl, hp2, hb2⟩
  clear k2 hp1' c6 cf cl
  have hx2 := Lib.hid (hx1'.out.step (Stp.of hb2))
  have hS2 := Lib.hid (show Stp G w nv w2 nv from hS1'.out.trans (Stp.of hb2))
  have hp2 := Lib.hid hp2
  clear hx1' hS1' hb2
  go_wp2_with fail
  refine (kE.out w2 nv _ hp2.out).mono ?_
  rintro e3 w3 ⟨a, nv3, rfl, hp3, hs3, hv3⟩
  have hx3 := Lib.hid (hx2.out.step hs3)
  have hS3 := Lib.hid (hS2.out.trans hs3)
  have hp3' := Lib.hid (hp3.box hx3.out hBw.out 1 (.int .i64 a))
  have hS3' := Lib.hid (hS3.out.store (Nat.le_refl w.heap.size) 1 (.int .i64 a))
  have hv3 := Lib.hid hv3
  have c0 := hx3.out.c0; have c1 := hx3.out.c1; have c2 := hx3.out.c2; have c3 := hx3.out.c3; have c4 := hx3.out.c4; have c5 := hx3.out.c5; have c6 := hx3.out.c6; have c7 := hx3.out.c7; have c8 := hx3.out.c8; have c9 := hx3.out.c9; have cf := hx3.out.fz; have cl := hx3.out.lt
  dsimp only at c0 c1 c2 c3 c4 c5 c6 c7 c8 c9
  have k4 := Lib.hid (node_any B G tv ts en ov d _ nv3 _ ⟨3, a, 0, 0, 0, ⟨#[]⟩, x, ⟨#[]⟩, ⟨#[]⟩, beg⟩ hp3')
  have he := Lib.hid (fun_eq (ts := ts) (en := en) (e := e) (beg := beg) (R := R) (x := x) (a := a) hv1.out hv3.out)
  clear hx2 hS2 hs3 hp3 hS3 hp2 hv1 hv3
  go_wp2_with fail
  refine k4.out.mono ?_
  rintro e4 w4 ⟨v, nv4, rfl, hp4, hs4, hv4⟩
  have hfin : Hid (PqN B G tv ts en ov d w nv (R >>= funP ts en e beg) (.returned (.int .i64 v)) w4) := Lib.hid (by rw [← he.out]; exact ⟨v, nv4, rfl, hp4, hS3'.out.trans hs4, hv4⟩)
  clear k4 hp4 hs4 hv4 he c0 c1 c2 c3 c4 c5 c6 c7 c8 c9 cf cl
  go_wp2_with fail
  go_ret
  exact hfin.out
end Go.Proofs.YtnhfbbognjdnpaaGreatDoor
