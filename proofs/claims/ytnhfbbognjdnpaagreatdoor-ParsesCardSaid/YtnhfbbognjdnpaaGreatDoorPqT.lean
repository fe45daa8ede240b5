/- The program's parser: the row of operations. -/
import Derived.Test.YtnhfbbognjdnpaaGreatDoorPqM
import Derived.Test.YtnhfbbognjdnpaaGreatDoorPaU
/- The program's parser: the row of operations. -/
namespace Go.Proofs.YtnhfbbognjdnpaaGreatDoor
open Go.RowKit
set_option linter.unusedVariables false
set_option linter.unusedSimpArgs false

theorem run_appO2 {W : World} (B : Nat) (hB : B ≤ W.heap.size) (ty : TypeId) (v : Value) (l : List Or) (hown : OwnO B W v l) (ad : Addr) (m c : Nat) (ys : List Or) (hm : m = ys.length) (hnews : ∀ j u, (orL ys)[j]? = some u → W.cell? (ad.add j) = some u) (hlen : l.length + ys.length ≤ 1000000) :
    ∃ v' w', (Builtin.append_ #[22, 22] ty #[v, .slice (some ad) m c]).run Tryz.prog W = .ok v' w' ∧ OwnO B w' v' (l ++ ys) ∧ Bar (fun k => v.ownBlock = some k) W w' ∧ (∀ g, v'.ownBlock = some g → v.ownBlock = some g ∨ W.heap.size ≤ g) := by
  subst hm
  obtain ⟨i0, hi, hz0, hz1, hz2⟩ := info_parts infoOr
  obtain ⟨v', w', hr, h1, h2, h3⟩ := run_append_own (P := Tryz.prog) (w := W) B 22 ty 57 i0 (.agg #[.string ByteArray.empty, .int .i64 0, .int .i64 0]) 3 32 Tryz.underlying22 hi hz0 hz1 hz2 rfl (by decide) v l.length (orL l) hown ad ys.length c (orL ys) (orL_len ys) hnews (orL_one ys) (by unfold maxLen; omega) (by omega) hB
  have h1' : OwnO B w' v' (l ++ ys) := by unfold OwnO; rw [orL_app, List.length_append]; exact h1
  have hbar : Bar (fun k => v.ownBlock = some k) W w' := ⟨h2.os, h2.tape, h2.output, h2.size, fun k hk hn => h2.block k hk (fun e => hn e.symm)⟩
  refine ⟨v', w', hr, h1', hbar, ?_⟩
  rcases hown.2 with ⟨e1, e0⟩ | ⟨g, cap, cur, e1, hBg, hg, hc, hcm, hcs, htk⟩
  · have hl0 : l = [] := List.eq_nil_of_length_eq_zero e0
    subst hl0; subst e1
    intro k hk
    by_cases h0 : ys.length = 0
    · have := h3.2 ⟨rfl, h0⟩; rw [this] at hk; cases hk
    · have hr2 := run_append_nil (P := Tryz.prog) W 22 ty 57 i0 (.agg #[.string ByteArray.empty, .int .i64 0, .int .i64 0]) Tryz.underlying22 hi hz0 ad ys.length c (orL ys) (by rw [orL_len, hz1]) hnews (by omega) (by omega) (by rw [hz2]; omega)
      rw [hr] at hr2
      injection hr2 with e1 e2
      subst e1
      have hk : W.heap.size = k := Option.some.inj hk
      exact .inr (by omega)
  · subst e1
    by_cases hroom : l.length + ys.length ≤ cap
    · have hfit : l.length * i0.size + (orL ys).length ≤ cur.size := by
        rw [hz1, hcs, orL_len]
        have := Nat.mul_le_mul_right 3 hroom
        rw [Nat.add_mul] at this; omega
      have hr2 := run_append_room (P := Tryz.prog) W 22 ty 57 i0 Tryz.underlying22 hi g l.length cap cur hg ad ys.length c (orL ys) (by rw [orL_len, hz1]) hnews (orL_one ys) hroom hfit
      rw [hr] at hr2
      injection hr2 with e1 e2
      intro k hk
      exact .inl (by rw [e1] at hk; exact hk)
    · have hr2 := run_append_grow (P := Tryz.prog) W 22 ty 57 i0 (.agg #[.string ByteArray.empty, .int .i64 0, .int .i64 0]) Tryz.underlying22 hi hz0 ⟨g, 0, none⟩ l.length cap (orL l) (by rw [orL_len, hz1]) (fun j u hj => World.ownsRow.cells (show W.ownsRow B 57 3 (.slice (some ⟨g, 0, none⟩) l.length cap) l.length (orL l) from hown) rfl j u hj) ad ys.length c (orL ys) (by rw [orL_len, hz1]) hnews (by omega) (by omega) (by rw [hz2]; exact growslice_fits (by omega) (by omega))
      rw [hr] at hr2
      injection hr2 with e1 e2
      have hob : v'.ownBlock = some W.heap.size := by rw [e1]; rfl
      intro k hk
      exact .inr (by rw [hob] at hk; injection hk with hk; omega)
/-- an append of operations that lie in the block that was made last, told by the blocks that stay. -/
theorem op_orr {ops : Array Oper} {rest : List Oper} {o : Oper} {a : Act} {Q : Exit → Act → World → Prop} (hgd : o.guard = none) (s x : Operand) (W : World) (B : Nat) (hB : B ≤ W.heap.size) (ov : Value) (l ys : List Or) (arr : Array Value)
    (ho : o.op = .call { callee := .builtin .append, args := #[s, x], argTypes := #[22, 22] })
    (hs : a.eval s = ov) (m : Nat) (hm : m = ys.length) (hx : a.eval x = .slice (some ⟨W.heap.size, 0, none⟩) m m) (harr : arr.toList = orL ys) (hown : OwnO B W ov l) (hlen : l.length + ys.length ≤ 1000000)
    (h : ∀ v' w', OwnO B w' v' (l ++ ys) → Bar (fun k => ov.ownBlock = some k) W w' → (∀ g, v'.ownBlock = some g → ov.ownBlock = some g ∨ W.heap.size ≤ g) → wpList Tryz.prog ops Q rest (a.put o.dst v') w') :
    wpList Tryz.prog ops Q (o :: rest) a (W.alloc (.cells arr 57)) := by
  subst hm
  refine wpList_plain hgd fun K hK => ?_
  obtain ⟨v', w', hr, h1, h2, h3⟩ := run_appO2 (W := W.alloc (.cells arr 57)) B (by simp; omega) o.type ov l (hown.below (below_alc W _)) ⟨W.heap.size, 0, none⟩ ys.length ys.length ys rfl (fun j u hj => by
    have e : (⟨W.heap.size, 0, none⟩ : Addr).add j = ⟨W.heap.size, j, none⟩ := by simp [Addr.add]; try omega
    rw [e, World.cell?_alloc_at _ _ _ _ rfl, ← hj, ← harr, Array.getElem?_toList]) hlen
  unfold Oper.wp execOp
  simp only [ho, resolve, invoke, builtin, Sem.run_bind, Sem.run_pure, Result.andThen_ok, List.map_toArray, List.map_cons, List.map_nil, hs, hx, hr]
  refine hK _ _ (h v' w' h1 ?_ fun g hg => ?_)
  · have hsz := h2.size
    simp at hsz
    exact ⟨h2.os, h2.tape, h2.output, by omega, fun k hk hn => (h2.block k (by simp; omega) hn).trans (Below.heap_alloc W _ k (by omega))⟩
  · rcases h3 g hg with h | h
    · exact .inl h
    · exact .inr (by simp at h; omega)
theorem owno_sl {B : Nat} {w : World} {v : Value} {l : List Or} (h : OwnO B w v l) : ∃ a c, v = .slice a l.length c := by
  rcases h.cases with ⟨rfl, rfl⟩ | ⟨g, c, rfl, _⟩
  · exact ⟨none, 0, rfl⟩
  · exact ⟨_, c, rfl⟩
theorem owno_lt {B : Nat} {w : World} {v : Value} {l : List Or} (h : OwnO B w v l) : ∀ k, v.ownBlock = some k → B ≤ k ∧ k < w.heap.size := by
  intro k hk
  rcases h.cases with ⟨rfl, _⟩ | ⟨g, c, rfl, h1, h2, _⟩
  · cases hk
  · have hk : g = k := Option.some.inj hk
    omega
/-- a row of operations that was put behind another; there is no node yet. -/
theorem PqW.setO {B G : Nat} {tv : Value} {ts : List Tk} {en : Int} {ov : Value} {d : Int} {w w2 : World} {nv ov' : Value} {st : PS} {ev : Value} (h : PqW B G tv ts en ov d w nv st ev) (hnn : nv.ownBlock = none) (hB : ∀ k, ov.ownBlock = some k → B ≤ k) (hb : Bar (fun k => ov.ownBlock = some k) w w2) (hl : ∀ k, ov'.ownBlock = some k → k < w2.heap.size) :
    PqW B G tv ts en ov' d (w2.setCell ⟨G, 4, none⟩ ov') nv st ev ∧ Bar (fun k => k = G ∨ ov.ownBlock = some k) w (w2.setCell ⟨G, 4, none⟩ ov') := by
  have ne : ∀ a b : Nat, a ≠ b → (⟨G, a, none⟩ : Addr) ≠ ⟨G, b, none⟩ := fun a b hab e => by injection e with _ e2 _; exact hab e2
  have hGn : ¬ ov.ownBlock = some G := fun e => by have := hB G e; have := h.gB; omega
  have hb2 : Bar (fun k => k = G) w2 (w2.setCell ⟨G, 4, none⟩ ov') := Bar.set (S := fun k => k = G) ⟨G, 4, none⟩ _ rfl
  have hsz := hb.size
  refine ⟨⟨Go.Proofs.YtnhfbbognjdnpaaGreatDoor.setO (hb.cell h.t hGn) (ne _ _ (by decide)), Go.Proofs.YtnhfbbognjdnpaaGreatDoor.setO (hb.cell h.e hGn) (ne _ _ (by decide)), Go.Proofs.YtnhfbbognjdnpaaGreatDoor.setO (hb.cell h.i hGn) (ne _ _ (by decide)), Go.Proofs.YtnhfbbognjdnpaaGreatDoor.setO (hb.cell h.d hGn) (ne _ _ (by decide)), setS (hb.cell h.o hGn), Go.Proofs.YtnhfbbognjdnpaaGreatDoor.setO (hb.cell h.n hGn) (ne _ _ (by decide)), Go.Proofs.YtnhfbbognjdnpaaGreatDoor.setO (hb.cell h.r hGn) (ne _ _ (by decide)), h.gB, by have := h.bl; simp; omega, fun o => ?_, (h.tk.bar hb (fun k hk _ e => by have := hB k e; omega)).bar hb2 (fun k _ hk => hk), Bar.own hb2 (Bar.own hb h.own (fun k hk => by rw [hnn] at hk; cases hk)) (fun k hk => by rw [hnn] at hk; cases hk), h.il, h.nl, h.tl, fun k hk => by have := hl k hk; simpa using this⟩, ?_⟩
  · simp only [World.frozen?_setCell]
    rw [hb.frozen (a := ⟨G, o, none⟩) (by have := h.gB; have := h.bl; show G < _; omega) hGn]; exact h.fg o
  · exact (Bar.trans (S := fun k => k = G ∨ ov.ownBlock = some k) ((Bar.refl _ _).trans hb fun _ _ hs => .inr hs) hb2 fun _ _ hs => .inl hs)
theorem PqX.setO {B G : Nat} {tv : Value} {ts : List Tk} {en : Int} {ov : Value} {d : Int} {w w2 : World} {nv ov' : Value} {R : Except PE PS} (h : PqX B G tv ts en ov d w nv R) (hnn : nv.ownBlock = none) (hB : ∀ k, ov.ownBlock = some k → B ≤ k) (hb : Bar (fun k => ov.ownBlock = some k) w w2) (hl : ∀ k, ov'.ownBlock = some k → k < w2.heap.size) (hh : ∀ g, ov'.ownBlock = some g → ov.ownBlock = some g ∨ w.heap.size ≤ g) :
    PqX B G tv ts en ov' d (w2.setCell ⟨G, 4, none⟩ ov') nv R ∧ Bar (fun k => k = G ∨ ov.ownBlock = some k) w (w2.setCell ⟨G, 4, none⟩ ov') := by
  cases R with
  | ok st => exact PqW.setO h hnn hB hb hl
  | error e =>
    obtain ⟨st, ev, h1, F, v, h2, h3, h4, h5, h6, h7, h8, h9, h10⟩ := h
    obtain ⟨k1, k2⟩ := h1.setO hnn hB hb hl
    refine ⟨⟨st, ev, k1, F, v, h2, by have := k2.size; omega, h4, h5, fun hc => ?_, k2.cell h7 ?_, k2.cell h8 ?_, h9, h10.bar k2 ?_⟩, k2⟩
    · rcases hh F hc with hc | hc
      · exact h6 hc
      · omega
    all_goals (rintro (hs | hs); exact h4 hs; exact h6 hs)
/-- an operation, behind 'op'. -/
def declQ (ts : List Tk) (en : Int) (st : PS) : Except PE (Or × PS) := do
  let (o, st) ← nameP ts en st
  let st ← wantP ts en sgColon st
  let (a, st) ← baseP ts en st
  let st ← wantP ts en sgArrow st
  let (b, st) ← baseP ts en st
  let st ← wantP ts en sgSemi st
  .ok (⟨o, a, b⟩, st)
theorem decl_chain {ts : List Tk} {en : Int} {R : Except PE PS} {x : ByteArray} {a b : Int} (hv1 : ∀ y st', (R >>= nameP ts en) = .ok (y, st') → x = y) (hv2 : ∀ y st', ((stX (R >>= nameP ts en) >>= wantP ts en sgColon) >>= baseP ts en) = .ok (y, st') → a = y) (hv3 : ∀ y st', ((stX ((stX (R >>= nameP ts en) >>= wantP ts en sgColon) >>= baseP ts en) >>= wantP ts en sgArrow) >>= baseP ts en) = .ok (y, st') → b = y) :
    (stX ((stX ((stX (R >>= nameP ts en) >>= wantP ts en sgColon) >>= baseP ts en) >>= wantP ts en sgArrow) >>= baseP ts en) >>= wantP ts en sgSemi) = stX (R >>= declQ ts en) ∧ ∀ o st', (R >>= declQ ts en) = .ok (o, st') → (⟨x, a, b⟩ : Or) = o := by
  rcases R with _ | st
  · exact ⟨rfl, fun o st' hc => by cases hc⟩
  simp only [bind, Except.bind, stX] at hv1 hv2 hv3 ⊢
  simp only [declQ, bind, Except.bind]
  rcases h1 : nameP ts en st with _ | ⟨y1, s1⟩
  · exact ⟨by simp only [h1], fun o st' hc => by simp only [h1] at hc; cases hc⟩
  simp only [h1] at hv1 hv2 hv3 ⊢
  obtain rfl := hv1 _ _ rfl
  rcases h2 : wantP ts en sgColon s1 with _ | s2
  · exact ⟨by simp only [h2], fun o st' hc => by simp only [h2] at hc; cases hc⟩
  simp only [h2] at hv2 hv3 ⊢
  rcases h3 : baseP ts en s2 with _ | ⟨y3, s3⟩
  · exact ⟨by simp only [h3], fun o st' hc => by simp only [h3] at hc; cases hc⟩
  simp only [h3] at hv2 hv3 ⊢
  obtain rfl := hv2 _ _ rfl
  rcases h4 : wantP ts en sgArrow s3 with _ | s4
  · exact ⟨by simp only [h4], fun o st' hc => by simp only [h4] at hc; cases hc⟩
  simp only [h4] at hv3 ⊢
  rcases h5 : baseP ts en s4 with _ | ⟨y5, s5⟩
  · exact ⟨by simp only [h5], fun o st' hc => by simp only [h5] at hc; cases hc⟩
  simp only [h5] at hv3 ⊢
  obtain rfl := hv3 _ _ rfl
  rcases h6 : wantP ts en sgSemi s5 with _ | s6
  · exact ⟨by simp only [h6], fun o st' hc => by simp only [h6] at hc; cases hc⟩
  simp only [h6]
  exact ⟨trivial, fun o st' hc => by injection hc with hc; injection hc⟩
theorem decl_lt {ts : List Tk} {en : Int} {R : Except PE PS} {os : List Or} (h : isX ts R kwOp = true) (hl : os.length < 4) : (R >>= declP ts en os) = ((takeX ts R kwOp >>= declQ ts en) >>= fun p => .ok (os ++ [p.1], p.2)) := by
  obtain ⟨st, rfl, hi, hx⟩ := isX_ok h
  rw [hx]
  show declP ts en os st = (declQ ts en ⟨st.i + 1, st.ns⟩ >>= _)
  unfold declP declQ
  rw [if_neg (by omega)]
  simp only [bind, Except.bind]
  rcases h1 : nameP ts en ⟨st.i + 1, st.ns⟩ with _ | ⟨y1, s1⟩
  · simp only [h1]
  simp only [h1]
  rcases h2 : wantP ts en sgColon s1 with _ | s2
  · simp only [h2]
  simp only [h2]
  rcases h3 : baseP ts en s2 with _ | ⟨y3, s3⟩
  · simp only [h3]
  simp only [h3]
  rcases h4 : wantP ts en sgArrow s3 with _ | s4
  · simp only [h4]
  simp only [h4]
  rcases h5 : baseP ts en s4 with _ | ⟨y5, s5⟩
  · simp only [h5]
  simp only [h5]
  rcases h6 : wantP ts en sgSemi s5 with _ | s6
  · simp only [h6]
  simp only [h6]
theorem decl_ge {ts : List Tk} {en : Int} {R : Except PE PS} {os : List Or} (h : isX ts R kwOp = true) (hl : 4 ≤ os.length) : ∃ e, failX ts en R 402 = .error e ∧ (R >>= declP ts en os) = .error e := by
  obtain ⟨st, rfl, hi, hx⟩ := isX_ok h
  refine ⟨(402, hereP ts en st.i), rfl, ?_⟩
  show declP ts en os st = _
  unfold declP
  rw [if_pos hl]
/-- what the calls of an operation come to: a state, and what is put if it is no error. -/
theorem decl_all {ts : List Tk} {en : Int} {R R0 : Except PE PS} {os : List Or} (h : isX ts R kwOp = true) (h0 : R0 = if os.length = 4 then failX ts en R 402 else R) (hl : os.length ≤ 4) {x : ByteArray} {a b : Int} (hv1 : ∀ y st', ((R0 >>= wantP ts en kwOp) >>= nameP ts en) = .ok (y, st') → x = y) (hv2 : ∀ y st', ((stX ((R0 >>= wantP ts en kwOp) >>= nameP ts en) >>= wantP ts en sgColon) >>= baseP ts en) = .ok (y, st') → a = y) (hv3 : ∀ y st', ((stX ((stX ((R0 >>= wantP ts en kwOp) >>= nameP ts en) >>= wantP ts en sgColon) >>= baseP ts en) >>= wantP ts en sgArrow) >>= baseP ts en) = .ok (y, st') → b = y) :
    (stX ((stX ((stX ((R0 >>= wantP ts en kwOp) >>= nameP ts en) >>= wantP ts en sgColon) >>= baseP ts en) >>= wantP ts en sgArrow) >>= baseP ts en) >>= wantP ts en sgSemi) = stX (R >>= declP ts en os) ∧ ∀ l st', (R >>= declP ts en os) = .ok (l, st') → os ++ [⟨x, a, b⟩] = l := by
  by_cases h4 : os.length = 4
  · rw [if_pos h4] at h0
    obtain ⟨e, he1, he2⟩ := decl_ge (en := en) h (Nat.le_of_eq h4.symm)
    rw [h0, he1, he2]
    exact ⟨rfl, fun l st' hc => by cases hc⟩
  · rw [if_neg h4] at h0
    obtain ⟨k1, k2⟩ := decl_chain hv1 hv2 hv3
    subst h0
    rw [decl_lt h (by omega)]
    rw [want_yes h] at k1 k2 ⊢
    refine ⟨k1.trans ?_, ?_⟩
    · rcases (takeX ts R0 kwOp >>= declQ ts en) with _ | ⟨o, s⟩ <;> rfl
    · intro l st' hc
      obtain ⟨⟨o, s⟩, hd, hc⟩ := ex_ok.1 hc
      rw [k2 _ _ hd]
      injection hc with hc
      injection hc
end Go.Proofs.YtnhfbbognjdnpaaGreatDoor

/- The program's parser: an operation, declared. -/
namespace Go.Proofs.YtnhfbbognjdnpaaGreatDoor
open Go.RowKit
set_option linter.unusedVariables false
set_option linter.unusedSimpArgs false

/-- an operation more, or an error. -/
def PqO (B G : Nat) (tv : Value) (ts : List Tk) (en : Int) (ov : Value) (d : Int) (w : World) (nv : Value) (os : List Or) (R : Except PE (List Or × PS)) (e : Ending) (w' : World) : Prop := ∃ ov' os', e = .returned (.tuple #[]) ∧ PqX B G tv ts en ov' d w' nv (stX R) ∧ OwnO B w' ov' os' ∧ Bar (fun k => k = G ∨ ov.ownBlock = some k) w w' ∧ os'.length = os.length + 1 ∧ ∀ l st', R = .ok (l, st') → os' = l
set_option maxRecDepth 100000 in
set_option maxHeartbeats 8000000 in
theorem operation_any (B G : Nat) (tv : Value) (ts : List Tk) (en : Int) (ov : Value) (d : Int) (w : World) (nv : Value) (os : List Or) (R : Except PE PS) (hnn : nv.ownBlock = none) (ho : Hid (OwnO B w ov os)) (hl : os.length ≤ 4) (hop : isX ts R kwOp = true) (h : Hid (PqX B G tv ts en ov d w nv R)) :
    Calls Tryz.prog 28 #[.pointer (some ⟨G, 0, none⟩)] w (PqO B G tv ts en ov d w nv os (R >>= declP ts en os)) := by
  obtain ⟨a, c, rfl⟩ := owno_sl ho.out
  obtain ⟨st, ev, h1, _⟩ := h.out.sl
  have hc := h1.o
  have hgl : G < w.heap.size := by have := h1.gB; have := h1.bl; omega
  clear h1
  have hop := Lib.hid hop
  have hnn := Lib.hid hnn
  have hl := Lib.hid hl
  go_enter Tryz.func28, Tryz.ntmps28
  by_cases h4 : os.length = 4
  · rw [h4] at hc
    have h40 := Lib.hid (show failX ts en R 402 = if os.length = 4 then failX ts en R 402 else R from (if_pos h4).symm)
    have k0 := Lib.hid (pfail_any B G tv ts en _ d w nv R 402 26 (.int .i64 402) (.inr ⟨by decide, rfl⟩) h)
    clear h4
    go_wp2_with fail
    refine k0.out.mono ?_
    rintro e0 w0 ⟨rfl, hp0, hb0⟩
    have hx0 := Lib.hid hp0
    have hB0 := Lib.hid hb0
    clear k0 hb0 hp0 hc hgl
    have k1 := Lib.hid (take_any B G tv ts en _ d w0 nv _ kwOp hx0)
    go_wp2_with fail
    refine k1.out.mono ?_
    rintro e1 w1 ⟨rfl, hp1, hb1⟩
    have hx1 := Lib.hid hp1
    have hB1 := Lib.hid (hB0.out.trans hb1 fun _ _ hs => hs)
    clear k1 hb1 hp1 hx0 hB0
    have k2 := Lib.hid (pname_any B G tv ts en _ d w1 nv _ hx1)
    go_wp2_with fail
    refine k2.out.mono ?_
    rintro e2 w2 ⟨x, rfl, ⟨hp2, hb2⟩, hy1⟩
    have hv1 := Lib.hid hy1
    clear hy1
    have hx2 := Lib.hid hp2
    have hB2 := Lib.hid (hB1.out.trans hb2 fun _ _ hs => hs)
    clear k2 hb2 hp2 hx1 hB1
    have k3 := Lib.hid (take_any B G tv ts en _ d w2 nv _ sgColon hx2)
    go_wp2_with fail
    refine k3.out.mono ?_
    rintro e3 w3 ⟨rfl, hp3, hb3⟩
    have hx3 := Lib.hid hp3
    have hB3 := Lib.hid (hB2.out.trans hb3 fun _ _ hs => hs)
    clear k3 hb3 hp3 hx2 hB2
    have k4 := Lib.hid (base_any B G tv ts en _ d w3 nv _ hx3)
    go_wp2_with fail
    refine k4.out.mono ?_
    rintro e4 w4 ⟨fa, rfl, ⟨hp4, hb4⟩, hy⟩
    have hv2 := Lib.hid hy
    clear hy
    have hx4 := Lib.hid hp4
    have hB4 := Lib.hid (hB3.out.trans hb4 fun _ _ hs => hs)
    clear k4 hb4 hp4 hx3 hB3
    have k5 := Lib.hid (take_any B G tv ts en _ d w4 nv _ sgArrow hx4)
    go_wp2_with fail
    refine k5.out.mono ?_
    rintro e5 w5 ⟨rfl, hp5, hb5⟩
    have hx5 := Lib.hid hp5
    have hB5 := Lib.hid (hB4.out.trans hb5 fun _ _ hs => hs)
    clear k5 hb5 hp5 hx4 hB4
    have k6 := Lib.hid (base_any B G tv ts en _ d w5 nv _ hx5)
    go_wp2_with fail
    refine k6.out.mono ?_
    rintro e6 w6 ⟨fb, rfl, ⟨hp6, hb6⟩, hy⟩
    have hv3 := Lib.hid hy
    clear hy
    have hx6 := Lib.hid hp6
    have hB6 := Lib.hid (hB5.out.trans hb6 fun _ _ hs => hs)
    clear k6 hb6 hp6 hx5 hB5
    have k7 := Lib.hid (take_any B G tv ts en _ d w6 nv _ sgSemi hx6)
    go_wp2_with fail
    refine k7.out.mono ?_
    rintro e7 w7 ⟨rfl, hp7, hb7⟩
    have hx7 := Lib.hid hp7
    have hB7 := Lib.hid (hB6.out.trans hb7 fun _ _ hs => hs)
    clear k7 hb7 hp7 hx6 hB6
    have hall := Lib.hid (decl_all (en := en) hop.out h40.out hl.out hv1.out hv2.out hv3.out)
    rw [hall.out.1] at hx7
    clear hv1 hv2 hv3
    obtain ⟨st7, ev7, h8, _⟩ := hx7.out.sl
    have hc := h8.o
    have hfr := h8.fg
    have hgW : G < w7.heap.size := by have := h8.gB; have := h8.bl; omega
    have hBW : B ≤ w7.heap.size := h8.bl
    have hnG : ¬ (Value.slice a os.length c).ownBlock = some G := fun e => by have := (owno_lt ho.out G e).1; have := h8.gB; omega
    have hown := Lib.hid (show OwnO B w7 (.slice a os.length c) os from Bar.own hB7.out ho.out fun k hk e => hnG (by rw [← e]; exact hk))
    have hq : Hid (os.length + [(⟨x, fa, fb⟩ : Or)].length ≤ 1000000) := Lib.hid (by have := hl.out; simp; omega)
    clear h8
    go_wp2_with (at_builtin; refine op_orr rfl (.tmp 32) (.tmp 37) w7 B hBW (.slice a os.length c) os [⟨x, fa, fb⟩] _ rfl rfl 1 rfl rfl rfl hown.out hq.out ?_; intro v' w8 hown8 hb8 hop8; obtain ⟨a8, c8, rfl⟩ := owno_sl hown8; have hc8 : w8.cell? ⟨G, 4, none⟩ = some (.slice a os.length c) := hb8.cell hc hnG; have hgw8 : G < w8.heap.size := Nat.lt_of_lt_of_le hgW hb8.size; have hf8 : w8.frozen? ⟨G, 4, none⟩ = false := (hb8.frozen (a := ⟨G, 4, none⟩) hgW hnG).trans (hfr 4); rw [List.length_append, List.length_singleton] at hown8 hop8; have hown8 := Lib.hid hown8; have hb8' := Lib.hid hb8; have hop8 := Lib.hid hop8; clear hb8)
    obtain ⟨k1, k2⟩ := hx7.out.setO hnn.out (fun k hk => (owno_lt ho.out k hk).1) hb8'.out (fun k hk => (owno_lt hown8.out k hk).2) hop8.out
    have hfin : Hid (PqO B G tv ts en (.slice a os.length c) d w nv os (R >>= declP ts en os) (.returned (.tuple #[])) (w8.setCell ⟨G, 4, none⟩ (.slice a8 (os.length + 1) c8))) := Lib.hid ⟨_, _, rfl, k1, Bar.own (S := fun k => k = G) (Bar.set ⟨G, 4, none⟩ _ rfl) hown8.out (fun k hk (e : k = G) => by have := (owno_lt hown8.out k hk).1; have := hx7.out.lt.1; omega), (Bar.trans (S := fun k => k = G ∨ (Value.slice a os.length c).ownBlock = some k) ((Bar.refl _ _).trans hB7.out fun _ _ hs => .inl hs) k2 fun _ _ hs => hs), by simp, hall.out.2⟩
    clear k1 k2 hown8 hb8' hop8 hc hfr hgW hBW hnG hown hall hx7 hB7
    go_wp2_with fail
    go_end0
    exact hfin.out
  · have e0 : ((os.length : Int) == 4) = false := beq_eq_false_iff_ne.2 (by omega)
    have h40 := Lib.hid (show R = if os.length = 4 then failX ts en R 402 else R from (if_neg h4).symm)
    clear h4
    have hx0 := Lib.hid h.out
    have hB0 := Lib.hid (Bar.refl (fun k => k = G) w)
    have k1 := Lib.hid (take_any B G tv ts en _ d w nv _ kwOp hx0)
    go_wp2_with fail
    clear hc hgl
    refine k1.out.mono ?_
    rintro e1 w1 ⟨rfl, hp1, hb1⟩
    have hx1 := Lib.hid hp1
    have hB1 := Lib.hid (hB0.out.trans hb1 fun _ _ hs => hs)
    clear k1 hb1 hp1 hx0 hB0
    have k2 := Lib.hid (pname_any B G tv ts en _ d w1 nv _ hx1)
    go_wp2_with fail
    refine k2.out.mono ?_
    rintro e2 w2 ⟨x, rfl, ⟨hp2, hb2⟩, hy1⟩
    have hv1 := Lib.hid hy1
    clear hy1
    have hx2 := Lib.hid hp2
    have hB2 := Lib.hid (hB1.out.trans hb2 fun _ _ hs => hs)
    clear k2 hb2 hp2 hx1 hB1
    have k3 := Lib.hid (take_any B G tv ts en _ d w2 nv _ sgColon hx2)
    go_wp2_with fail
    refine k3.out.mono ?_
    rintro e3 w3 ⟨rfl, hp3, hb3⟩
    have hx3 := Lib.hid hp3
    have hB3 := Lib.hid (hB2.out.trans hb3 fun _ _ hs => hs)
    clear k3 hb3 hp3 hx2 hB2
    have k4 := Lib.hid (base_any B G tv ts en _ d w3 nv _ hx3)
    go_wp2_with fail
    refine k4.out.mono ?_
    rintro e4 w4 ⟨fa, rfl, ⟨hp4, hb4⟩, hy⟩
    have hv2 := Lib.hid hy
    clear hy
    have hx4 := Lib.hid hp4
    have hB4 := Lib.hid (hB3.out.trans hb4 fun _ _ hs => hs)
    clear k4 hb4 hp4 hx3 hB3
    have k5 := Lib.hid (take_any B G tv ts en _ d w4 nv _ sgArrow hx4)
    go_wp2_with fail
    refine k5.out.mono ?_
    rintro e5 w5 ⟨rfl, hp5, hb5⟩
    have hx5 := Lib.hid hp5
    have hB5 := Lib.hid (hB4.out.trans hb5 fun _ _ hs => hs)
    clear k5 hb5 hp5 hx4 hB4
    have k6 := Lib.hid (base_any B G tv ts en _ d w5 nv _ hx5)
    go_wp2_with fail
    refine k6.out.mono ?_
    rintro e6 w6 ⟨fb, rfl, ⟨hp6, hb6⟩, hy⟩
    have hv3 := Lib.hid hy
    clear hy
    have hx6 := Lib.hid hp6
    have hB6 := Lib.hid (hB5.out.trans hb6 fun _ _ hs => hs)
    clear k6 hb6 hp6 hx5 hB5
    have k7 := Lib.hid (take_any B G tv ts en _ d w6 nv _ sgSemi hx6)
    go_wp2_with fail
    refine k7.out.mono ?_
    rintro e7 w7 ⟨rfl, hp7, hb7⟩
    have hx7 := Lib.hid hp7
    have hB7 := Lib.hid (hB6.out.trans hb7 fun _ _ hs => hs)
    clear k7 hb7 hp7 hx6 hB6
    have hall := Lib.hid (decl_all (en := en) hop.out h40.out hl.out hv1.out hv2.out hv3.out)
    rw [hall.out.1] at hx7
    clear hv1 hv2 hv3
    obtain ⟨st7, ev7, h8, _⟩ := hx7.out.sl
    have hc := h8.o
    have hfr := h8.fg
    have hgW : G < w7.heap.size := by have := h8.gB; have := h8.bl; omega
    have hBW : B ≤ w7.heap.size := h8.bl
    have hnG : ¬ (Value.slice a os.length c).ownBlock = some G := fun e => by have := (owno_lt ho.out G e).1; have := h8.gB; omega
    have hown := Lib.hid (show OwnO B w7 (.slice a os.length c) os from Bar.own hB7.out ho.out fun k hk e => hnG (by rw [← e]; exact hk))
    have hq : Hid (os.length + [(⟨x, fa, fb⟩ : Or)].length ≤ 1000000) := Lib.hid (by have := hl.out; simp; omega)
    clear h8
    go_wp2_with (at_builtin; refine op_orr rfl (.tmp 32) (.tmp 37) w7 B hBW (.slice a os.length c) os [⟨x, fa, fb⟩] _ rfl rfl 1 rfl rfl rfl hown.out hq.out ?_; intro v' w8 hown8 hb8 hop8; obtain ⟨a8, c8, rfl⟩ := owno_sl hown8; have hc8 : w8.cell? ⟨G, 4, none⟩ = some (.slice a os.length c) := hb8.cell hc hnG; have hgw8 : G < w8.heap.size := Nat.lt_of_lt_of_le hgW hb8.size; have hf8 : w8.frozen? ⟨G, 4, none⟩ = false := (hb8.frozen (a := ⟨G, 4, none⟩) hgW hnG).trans (hfr 4); rw [List.length_append, List.length_singleton] at hown8 hop8; have hown8 := Lib.hid hown8; have hb8' := Lib.hid hb8; have hop8 := Lib.hid hop8; clear hb8)
    obtain ⟨k1, k2⟩ := hx7.out.setO hnn.out (fun k hk => (owno_lt ho.out k hk).1) hb8'.out (fun k hk => (owno_lt hown8.out k hk).2) hop8.out
    have hfin : Hid (PqO B G tv ts en (.slice a os.length c) d w nv os (R >>= declP ts en os) (.returned (.tuple #[])) (w8.setCell ⟨G, 4, none⟩ (.slice a8 (os.length + 1) c8))) := Lib.hid ⟨_, _, rfl, k1, Bar.own (S := fun k => k = G) (Bar.set ⟨G, 4, none⟩ _ rfl) hown8.out (fun k hk (e : k = G) => by have := (owno_lt hown8.out k hk).1; have := hx7.out.lt.1; omega), (Bar.trans (S := fun k => k = G ∨ (Value.slice a os.length c).ownBlock = some k) ((Bar.refl _ _).trans hB7.out fun _ _ hs => .inl hs) k2 fun _ _ hs => hs), by simp, hall.out.2⟩
    clear k1 k2 hown8 hb8' hop8 hc hfr hgW hBW hnG hown hall hx7 hB7
    go_wp2_with fail
    go_end0
    exact hfin.out
end Go.Proofs.YtnhfbbognjdnpaaGreatDoor

/- The program's parser: a whole program. -/
namespace Go.Proofs.YtnhfbbognjdnpaaGreatDoor
open Go.RowKit
set_option linter.unusedVariables false
set_option linter.unusedSimpArgs false

/-- where the loop over operations is: T is what it comes to. -/
structure OpI (B G : Nat) (tv : Value) (ts : List Tk) (en : Int) (w : World) (T : Except PE (List Or × PS)) (k : Nat) (wr : World) (ov : Value) (os : List Or) (R : Except PE PS) : Prop where
  x : PqX B G tv ts en ov 0 wr (.slice none 0 0) R
  o : OwnO B wr ov os
  b : Bar (fun k => k = G) w wr
  l : os.length ≤ 5
  r : ∀ st, R = .ok st → os.length ≤ 4 ∧ ts.length < k + st.i ∧ declLoop ts en k os st = T
  e : ∀ e, R = .error e → T = .error e
theorem OpI.yes {B G : Nat} {tv : Value} {ts : List Tk} {en : Int} {w : World} {T : Except PE (List Or × PS)} {k : Nat} {wr : World} {ov : Value} {os : List Or} {R : Except PE PS} (h : OpI B G tv ts en w T k wr ov os R) (hop : isX ts R kwOp = true) : os.length ≤ 4 ∧ 0 < k := by
  obtain ⟨st, rfl, hi, _⟩ := isX_ok hop
  obtain ⟨h1, h2, _⟩ := h.r st rfl
  have := (show PqW B G tv ts en ov 0 wr (.slice none 0 0) st .nilIface from h.x).il
  exact ⟨h1, by omega⟩
theorem OpI.next {B G : Nat} {tv : Value} {ts : List Tk} {en : Int} {w : World} {T : Except PE (List Or × PS)} {k : Nat} {wr : World} {ov : Value} {os : List Or} {R : Except PE PS} (h : OpI B G tv ts en w T k wr ov os R) (hop : isX ts R kwOp = true) (hB : w.heap.size ≤ B) {w2 : World} {ov2 : Value} {os2 : List Or} (hx : PqX B G tv ts en ov2 0 w2 (.slice none 0 0) (stX (R >>= declP ts en os))) (ho : OwnO B w2 ov2 os2) (hb : Bar (fun k => k = G ∨ ov.ownBlock = some k) wr w2) (hl : os2.length = os.length + 1) (hv : ∀ l st', (R >>= declP ts en os) = .ok (l, st') → os2 = l) :
    OpI B G tv ts en w T (k - 1) w2 ov2 os2 (stX (R >>= declP ts en os)) := by
  obtain ⟨st, rfl, hi, _⟩ := isX_ok hop
  have hop : isP ts st.i kwOp = true := hop
  obtain ⟨h1, h2, h3⟩ := h.r st rfl
  have hil := (show PqW B G tv ts en ov 0 wr (.slice none 0 0) st .nilIface from h.x).il
  obtain ⟨k, rfl⟩ : ∃ j, k = j + 1 := ⟨k - 1, by omega⟩
  have hv : ∀ l st', declP ts en os st = .ok (l, st') → os2 = l := hv
  rw [declLoop, if_pos hop] at h3
  refine ⟨hx, ho, h.b.trans hb fun g hg hs => ?_, by omega, ?_, ?_⟩
  · rcases hs with hs | hs
    · exact hs
    · have := (owno_lt h.o g hs).1; omega
  · intro s1 hs1
    have hs1 : stX (declP ts en os st) = .ok s1 := hs1
    rcases hd : declP ts en os st with _ | ⟨l, s2⟩
    · rw [hd] at hs1; cases hs1
    rw [hd] at hs1 h3
    injection hs1 with hs1
    subst hs1
    obtain rfl := hv _ _ hd
    obtain ⟨a1, a2, a3, a4, o, a5, _⟩ := declP_ok hd
    exact ⟨by omega, by dsimp only; omega, h3⟩
  · intro e he
    have he : stX (declP ts en os st) = .error e := he
    rcases hd : declP ts en os st with x | ⟨l, s2⟩
    · rw [hd] at he h3
      injection he with he
      subst he
      exact h3.symm
    · rw [hd] at he; cases he
/-- the loop's end: an error, or all operations. -/
theorem OpI.no {B G : Nat} {tv : Value} {ts : List Tk} {en : Int} {w : World} {T : Except PE (List Or × PS)} {k : Nat} {wr : World} {ov : Value} {os : List Or} {R : Except PE PS} (h : OpI B G tv ts en w T k wr ov os R) (hop : isX ts R kwOp = false) : T = (R >>= fun st => .ok (os, st)) := by
  rcases R with e | st
  · exact h.e e rfl
  · have hop : isP ts st.i kwOp = false := hop
    obtain ⟨h1, h2, h3⟩ := h.r st rfl
    have hil := (show PqW B G tv ts en ov 0 wr (.slice none 0 0) st .nilIface from h.x).il
    obtain ⟨k, rfl⟩ : ∃ j, k = j + 1 := ⟨k - 1, by omega⟩
    rw [declLoop, if_neg (by rw [hop]; decide)] at h3
    exact h3.symm
/-- a program, or an error. -/
def PqZ (B G : Nat) (tv : Value) (ts : List Tk) (en : Int) (w : World) (e : Ending) (w' : World) : Prop := ∃ ov os nv RF, e = .returned (.tuple #[]) ∧ PqX B G tv ts en ov 0 w' nv RF ∧ OwnO B w' ov os ∧ os.length ≤ 5 ∧ Bar (fun k => k = G) w w' ∧ progP ts en = (RF >>= fun st => .ok (os, st.ns))
theorem prog_err {ts : List Tk} {en : Int} {R : Except PE PS} {os : List Or} {T : Except PE (List Or × PS)} (hT : declLoop ts en (ts.length + 1) [] ⟨0, []⟩ = T) (hR : T = (R >>= fun st => .ok (os, st))) {e : PE} (he : stX (R >>= exprP ts en 40) = .error e) : progP ts en = .error e := by
  unfold progP
  rw [hT, hR]
  rcases R with _ | st
  · exact congrArg Except.error (Except.error.inj he)
  have he : stX (exprP ts en 40 st) = .error e := he
  rcases hx : exprP ts en 40 st with _ | ⟨n, s⟩
  · rw [hx] at he
    simp only [bind, Except.bind, hx]
    exact congrArg Except.error (Except.error.inj he)
  · rw [hx] at he; cases he
theorem prog_ok {ts : List Tk} {en : Int} {R : Except PE PS} {os : List Or} {T : Except PE (List Or × PS)} (hT : declLoop ts en (ts.length + 1) [] ⟨0, []⟩ = T) (hR : T = (R >>= fun st => .ok (os, st))) {st : PS} (he : stX (R >>= exprP ts en 40) = .ok st) : progP ts en = (if st.i < ts.length then .error (403, hereP ts en st.i) else .ok (os, st.ns)) := by
  unfold progP
  rw [hT, hR]
  rcases R with _ | s0
  · cases he
  have he : stX (exprP ts en 40 s0) = .ok st := he
  rcases hx : exprP ts en 40 s0 with _ | ⟨n, s⟩
  · rw [hx] at he; cases he
  · rw [hx] at he
    injection he with he
    subst he
    simp only [bind, Except.bind, hx]
set_option maxRecDepth 100000 in
set_option maxHeartbeats 8000000 in
theorem program_any (B G : Nat) (tv : Value) (ts : List Tk) (en : Int) (w : World) (hBe : w.heap.size ≤ B) (h : Hid (PqX B G tv ts en (.slice none 0 0) 0 w (.slice none 0 0) (.ok ⟨0, []⟩))) :
    Calls Tryz.prog 11 #[.pointer (some ⟨G, 0, none⟩)] w (PqZ B G tv ts en w) := by
  obtain ⟨T, hT⟩ : ∃ T, declLoop ts en (ts.length + 1) [] ⟨0, []⟩ = T := ⟨_, rfl⟩
  have hI0 : Hid (OpI B G tv ts en w T (ts.length + 1) w (.slice none 0 0) [] (.ok ⟨0, []⟩)) := Lib.hid ⟨h.out, OwnO.nil _ _, Bar.refl _ _, by simp, fun st hs => by injection hs with hs; subst hs; exact ⟨by simp, by simp, hT⟩, fun e he => by cases he⟩
  have hT := Lib.hid hT
  have hBe := Lib.hid hBe
  clear h
  go_enter Tryz.func11, Tryz.ntmps11
  go_wp2_with fail
  go_loopg [] (ts.length + 1) (fun k wr => ∃ (ov : Value) (os : List Or) (R : Except PE PS), Hid (OpI B G tv ts en w T k wr ov os R))
  case atStart => exact ⟨_, _, _, hI0⟩
  case round =>
    obtain ⟨ov, os, R, hI⟩ := hrel
    clear hI0
    have k2 := Lib.hid (is_any B G tv ts en ov 0 wr _ _ kwOp (Lib.hid hI.out.x))
    obtain ⟨q, hq⟩ : ∃ q, isX ts R kwOp = q := ⟨_, rfl⟩
    rw [hq] at k2
    have hq := Lib.hid hq
    go_wp2_with fail
    refine k2.out.mono ?_
    rintro e2 w2 ⟨rfl, hb2⟩
    have hb2 := Lib.hid hb2
    clear k2
    cases q
    · have hR := Lib.hid (hI.out.no hq.out)
      have k3 := Lib.hid (pexpr_any B G tv ts en ov w2 _ _ (Lib.hid (hI.out.x.below hb2.out)))
      have hO2 := Lib.hid (show OwnO B w2 ov os from hI.out.o.below hb2.out)
      have hB2 := Lib.hid (show Bar (fun k => k = G) w w2 from hI.out.b.next hb2.out)
      have hl5 := Lib.hid hI.out.l
      have hGB := Lib.hid hI.out.x.lt.1
      clear hI
      go_wp2_with fail
      refine k3.out.mono ?_
      rintro e3 w3 ⟨v3, nv3, rfl, hp3, hs3, _⟩
      have hB3' := Lib.hid (show Bar (fun k => k = G) w2 w3 from ⟨hs3.1.os, hs3.1.tape, hs3.1.output, hs3.1.size, fun k hk hn => hs3.1.block k hk (fun hs => by rcases hs with hs | hs; exact hn hs; cases hs)⟩)
      have hO3 := Lib.hid (show OwnO B w3 ov os from Bar.own hB3'.out hO2.out fun k hk e => by have := (owno_lt hO2.out k hk).1; have := hGB.out; omega)
      have hB3 := Lib.hid (hB2.out.trans hB3'.out fun _ _ hs => hs)
      clear k3 hs3 hO2 hB2 hB3'
      have hn0 := fun (u : Value) (W : World) => err_eql 43 u W
      have hn1 := nil_eql
      have hpe := Lib.hid fun (e : PE) => prog_err (e := e) hT.out hR.out
      have hpo := Lib.hid fun (st : PS) => prog_ok (st := st) hT.out hR.out
      generalize stX (R >>= exprP ts en 40) = R4 at hp3 hpe hpo
      clear hR hT
      rcases R4 with e | st
      · obtain ⟨st3, ev3, h3, F, v, rfl, _⟩ := id hp3
        have hr := h3.r
        have hgl : G < w3.heap.size := by have := h3.gB; have := h3.bl; omega
        have hfin : Hid (∀ W, Below w3.heap.size w3 W → PqZ B G tv ts en w (.returned (.tuple #[])) W) := Lib.hid fun W hW => ⟨ov, os, nv3, .error e, rfl, PqX.below hp3 hW, hO3.out.below hW, hl5.out, hB3.out.next hW, hpe.out e rfl⟩
        clear h3 hp3 hO3 hB3 hpe hpo
        go_wp2_with fail
        go_quiet (fail)
        go_wp2_with fail
        go_end0
        exact hfin.out _ (by (repeat' (first | with_reducible exact Below.refl _ _ | with_reducible assumption | with_reducible apply Below.setCell | with_reducible apply Below.alloc | with_reducible apply Below.drew | with_reducible apply below_drewN | with_reducible exact Nat.le_refl _ | (simp; done) | (simp; omega) | omega | exact Nat.le_refl _)))
      · have h3 : PqW B G tv ts en ov 0 w3 nv3 st .nilIface := hp3
        have hr := h3.r
        have hi := h3.i
        have ht := h3.t
        have hgl : G < w3.heap.size := by have := h3.gB; have := h3.bl; omega
        obtain ⟨a, c, rfl⟩ := tk_len h3.tk
        by_cases hlt : st.i < ts.length
        · have hj : (st.i : Int) < (ts.length : Int) := by omega
          have k4 := Lib.hid fun (W : World) (g : Nat) (hW : Below w3.heap.size w3 W) => fail_ok B G _ ts en ov 0 W nv3 st 403 _ _ (wanted_in g) (Lib.hid (h3.below hW))
          have hpo4 := Lib.hid ((hpo.out st rfl).trans (if_pos hlt))
          clear h3 hp3 hpe hpo hlt
          go_wp2_with fail
          go_quiet (fail)
          go_wp2_with fail
          refine (k4.out _ _ (by (repeat' (first | with_reducible exact Below.refl _ _ | with_reducible assumption | with_reducible apply Below.setCell | with_reducible apply Below.alloc | with_reducible apply Below.drew | with_reducible apply below_drewN | with_reducible exact Nat.le_refl _ | (simp; done) | (simp; omega) | omega | exact Nat.le_refl _)))).mono ?_
          rintro e5 w5 ⟨rfl, hp5, hb5⟩
          have hB5 := Lib.hid (show Bar (fun k => k = G) w3 w5 from (Bar.of_below (S := fun k => k = G) (by (repeat' (first | with_reducible exact Below.refl _ _ | with_reducible assumption | with_reducible apply Below.setCell | with_reducible apply Below.alloc | with_reducible apply Below.drew | with_reducible apply below_drewN | with_reducible exact Nat.le_refl _ | (simp; done) | (simp; omega) | omega | exact Nat.le_refl _)))).trans hb5 fun _ _ hs => hs)
          have hfin : Hid (PqZ B G (.slice a ts.length c) ts en w (.returned (.tuple #[])) w5) := Lib.hid ⟨ov, os, nv3, _, rfl, hp5, Bar.own hB5.out hO3.out (fun k hk e => by have := (owno_lt hO3.out k hk).1; have := hGB.out; omega), hl5.out, hB3.out.trans hB5.out fun _ _ hs => hs, hpo4.out⟩
          clear hp5 hb5 k4 hr hi ht
          go_wp2_with fail
          go_end0
          exact hfin.out
        · have hj : ¬ (st.i : Int) < (ts.length : Int) := by omega
          have hpo4 := Lib.hid ((hpo.out st rfl).trans (if_neg hlt))
          have hfin : Hid (∀ W, Below w3.heap.size w3 W → PqZ B G (.slice a ts.length c) ts en w (.returned (.tuple #[])) W) := Lib.hid fun W hW => ⟨ov, os, nv3, .ok st, rfl, PqX.below hp3 hW, hO3.out.below hW, hl5.out, hB3.out.next hW, hpo4.out⟩
          clear h3 hp3 hO3 hB3 hpe hpo hlt
          go_wp2_with fail
          go_quiet (fail)
          go_wp2_with fail
          go_end0
          exact hfin.out _ (by (repeat' (first | with_reducible exact Below.refl _ _ | with_reducible assumption | with_reducible apply Below.setCell | with_reducible apply Below.alloc | with_reducible apply Below.drew | with_reducible apply below_drewN | with_reducible exact Nat.le_refl _ | (simp; done) | (simp; omega) | omega | exact Nat.le_refl _)))
    · have hk0 := Lib.hid (hI.out.yes hq.out)
      have k3 := Lib.hid (operation_any B G tv ts en ov 0 w2 _ os R rfl (Lib.hid (hI.out.o.below hb2.out)) hk0.out.1 hq.out (Lib.hid (hI.out.x.below hb2.out)))
      go_wp2_with fail
      refine k3.out.mono ?_
      rintro e3 w3 ⟨ov3, os3, rfl, hp3, ho3, hb3, hl3, hv3⟩
      have hI3 := Lib.hid (hI.out.next hq.out hBe.out hp3 ho3 ((Bar.of_below (S := fun k => k = G ∨ ov.ownBlock = some k) hb2.out).trans hb3 fun _ _ hs => hs) hl3 hv3)
      clear k3 hp3 ho3 hb3 hl3 hv3
      go_wp2_with fail
      go_roundg (gk - 1)
      case measure => have := hk0.out.2; omega
      case rel => exact ⟨ov3, os3, _, hI3⟩
end Go.Proofs.YtnhfbbognjdnpaaGreatDoor
