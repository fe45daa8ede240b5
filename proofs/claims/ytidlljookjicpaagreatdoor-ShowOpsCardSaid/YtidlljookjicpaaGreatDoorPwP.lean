/- show.Print: the program's text. -/
import Derived.Test.YtidlljookjicpaaGreatDoorPwS
import Derived.Test.YtidlljookjicpaaGreatDoorPwF
import Derived.Test.YtidlljookjicpaaGreatDoorPgA
import Derived.Test.YtidlljookjicpaaGreatDoorRgT
import Derived.Test.YtidlljookjicpaaGreatDoorNdCo
import Derived.Test.YtidlljookjicpaaGreatDoorPrg
/- show.Print: the program's text. -/
namespace Go.Proofs.YtidlljookjicpaaGreatDoor
open Go.RowKit
set_option linter.unusedVariables false
set_option linter.unusedSimpArgs false

theorem PT.wr {w0 : World} {G b off cp : Nat} {ts : List Nd} (hl : ts.length ≤ 512) (hn0 : Hid (NdSl w0 b off ts)) (hb0 : b < w0.heap.size) (hTb : Hid (TabW w0)) : ∀ (T : PT), T.ok → NdP w0 G b off cp ts T ∧ ExP w0 G b off cp ts T ∧ OpP w0 G b off cp ts T := by
  have key : ∀ T : PT, NdP w0 G b off cp ts T → NdP w0 G b off cp ts T ∧ ExP w0 G b off cp ts T ∧ OpP w0 G b off cp ts T := fun T h => ⟨h, ex_of hl hn0 hb0 h, op_of hl hn0 hb0 h (ex_of hl hn0 hb0 h)⟩
  intro T
  induction T with
  | var nm => exact fun h => key _ (nd_var h)
  | int n => exact fun h => key _ (nd_int hTb h)
  | bol n => exact fun h => key _ (nd_bol h)
  | fn x a ia => exact fun h => key _ (nd_fn hl h (ia h.2).2.1)
  | app a b ia ib => exact fun h => key _ (nd_app hl h (ia h.1).2.2 (ib h.2).2.2)
  | lt x a b ia ib => exact fun h => key _ (nd_lt hl h (ia h.2.1).2.1 (ib h.2.2).2.1)
  | rc x y a b ia ib => exact fun h => key _ (nd_rc hl h (ia h.2.1).2.1 (ib h.2.2).2.1)
  | cd a b c ia ib ic => exact fun h => key _ (nd_cd hl h (ia h.1).2.1 (ib h.2.1).2.1 (ic h.2.2).2.1)
  | pr n a b ia ib => exact fun h => key _ (nd_pr hl h (ia h.2.1).2.2 (ib h.2.2).2.2)
  | ac nm a ia => exact fun h => key _ (nd_ac hl h (ia h.2).2.2)
  | hn nm x y z a b c ia ib ic => exact fun h => key _ (nd_hn hl h (ia h.2.1).2.1 (ib h.2.2.1).2.1 (ic h.2.2.2).2.1)
theorem sbase_any (k : Int) (w : World) : Calls Tryz.prog 23 #[.int .i64 k] w fun e w' => e = .returned (.string (bs (bsT k))) ∧ w = w' := by
  by_cases h : k = 1
  · subst h
    go_enter Tryz.func23, Tryz.ntmps23
    go_wp2_with fail
    go_ret
    exact ⟨rfl, rfl⟩
  · have hv : bs (bsT k) = ⟨#[105, 110, 116]⟩ := by unfold bsT; rw [if_neg h]; rfl
    go_enter Tryz.func23, Tryz.ntmps23
    go_wp2_with fail
    go_ret
    exact ⟨by rw [hv]; rfl, rfl⟩
theorem pn_len (B g : Nat) (l : List UInt8) (nd td : Value) (w : World) (h : Hid (PnAt w B g l nd td)) :
    Calls Tryz.prog 25 #[.pointer (some ⟨g, 0, none⟩)] w fun e w' => e = .returned (.int .i64 (l.length : Nat)) ∧ w = w' := by
  obtain ⟨p, hB, v, hbk, hown⟩ : ∃ p, PnP w B g p l nd td := by
    rcases h.out with h | h
    · exact ⟨_, h⟩
    · exact ⟨_, h⟩
  obtain ⟨ao, cap, rfl⟩ : ∃ ao cap, v = .slice ao l.length cap := by
    rcases hown.2 with ⟨hv, hz⟩ | ⟨q, cap, cur, hv, r⟩
    · exact ⟨none, 0, by rw [hv, hz]⟩
    · exact ⟨_, cap, hv⟩
  have c1 : w.cell? ⟨g, 1, none⟩ = some (.slice ao l.length cap) := by rw [Lib.cell_of_heap hbk]; rfl
  have hgl : g < w.heap.size := (Array.getElem?_eq_some_iff.1 hbk).1
  clear hbk hown h
  go_enter Tryz.func25, Tryz.ntmps25
  go_wp2_with fail
  go_ret
  exact ⟨rfl, rfl⟩
theorem stp_new {w0 : World} {b off cp : Nat} {ts : List Nd} : StP w0 w0.heap.size b off cp ts (w0.alloc (.cells #[.pointer none, .slice none 0 0, .slice (some ⟨b, off, none⟩) ts.length cp, .bool false] 59)) (some []) 0 := by
  refine ⟨below_alc _ _, [], false, .inl ⟨Nat.le_refl _, .slice none 0 0, ?_, World.ownsRow_nil _ _ _ _⟩, Nat.le_refl _, .inl ⟨rfl, rfl⟩⟩
  show (w0.heap.push _)[w0.heap.size]? = _
  rw [Array.getElem?_push_size]
theorem PT.tx_ne : ∀ (T : PT), T.ok → T.tx ≠ []
  | .var nm, h => fun e => by
    have h : nmB nm.data.toList = true := h
    have e : nm.data.toList = [] := e
    rw [e] at h; exact absurd h (by decide)
  | .int n, h => fun e => by
    obtain ⟨y, rfl⟩ := Int.eq_ofNat_of_zero_le h.1
    have e : Lib.itoa ((y : Nat) : Int) = [] := e
    rw [show Lib.itoa ((y : Nat) : Int) = Lib.decDigits y from itoa_nat y] at e
    obtain ⟨c, x, hd, hc, hx⟩ := dd_cons y
    rw [hd] at e; cases e
  | .bol n, h => fun e => by simp only [PT.tx] at e; split at e <;> cases e
  | .fn x a, h => fun e => by simp [PT.tx] at e
  | .app a b, h => fun e => by simp [PT.tx] at e
  | .lt x a b, h => fun e => by simp [PT.tx] at e
  | .rc x y a b, h => fun e => by simp [PT.tx] at e
  | .cd a b c, h => fun e => by simp [PT.tx] at e
  | .pr n a b, h => fun e => by
    have hm := sgT_ne n
    simp [PT.tx, hm] at e
  | .ac nm a, h => fun e => by simp [PT.tx] at e
  | .hn nm x y z a b c, h => fun e => by simp [PT.tx] at e
def prV (os : List Or) (ts : List Nd) (T : PT) : Option (List UInt8) := if mayV os ts = true then outV os T else none
def prS (R : Option (List UInt8)) : ByteArray := match R with | some l => bs l | none => ⟨#[]⟩
def prE (R : Option (List UInt8)) : Int := match R with | some _ => 0 | none => 500
theorem opsT_succ {os : List Or} {j : Nat} (h : j < os.length) : opsT (os.take (j + 1)) = opsT (os.take j) ++ opT (os.getD j or0) := by
  unfold opsT
  rw [List.take_succ_eq_append_getElem h, List.flatMap_append, List.getD_eq_getElem?_getD, List.getElem?_eq_getElem h]
  simp
theorem opB_eq (o : Or) : ((((((⟨#[111, 112, 32]⟩ : ByteArray) ++ o.nm) ++ ⟨#[32, 58, 32]⟩) ++ bs (bsT o.f)) ++ ⟨#[32, 45, 62, 32]⟩) ++ bs (bsT o.t)) ++ ⟨#[59, 32]⟩ = bs (opT o) := by
  apply ba_x
  simp [opT, bs]
theorem opT_len {o : Or} (h : orOk o) : (opT o).length ≤ 36 := by
  have hn := nm_len h.1
  have h1 := bsT_len o.f
  have h2 := bsT_len o.t
  simp only [opT, List.length_append, List.length_cons, List.length_nil]; omega
theorem stp_opw {w0 : World} {G b off cp : Nat} {ts : List Nd} (o : Or) (ho : (opT o).length ≤ 36) (l : List UInt8) (m : Nat) (W : World) (h : Hid (StP w0 G b off cp ts W (some l) m)) (hm : m + 36 ≤ 1000000) :
    Calls Tryz.prog 22 #[.pointer (some ⟨G, 0, none⟩), .string (((((((⟨#[111, 112, 32]⟩ : ByteArray) ++ o.nm) ++ ⟨#[32, 58, 32]⟩) ++ bs (bsT o.f)) ++ ⟨#[32, 45, 62, 32]⟩) ++ bs (bsT o.t)) ++ ⟨#[59, 32]⟩)] W fun e w' => e = .returned (.tuple #[.int .i64 (((((((⟨#[111, 112, 32]⟩ : ByteArray) ++ o.nm) ++ ⟨#[32, 58, 32]⟩) ++ bs (bsT o.f)) ++ ⟨#[32, 45, 62, 32]⟩) ++ bs (bsT o.t)) ++ ⟨#[59, 32]⟩).size, .nilIface]) ∧ StP w0 G b off cp ts w' (some (l ++ opT o)) (m + 36) ∧ BarP w0.heap.size G W w' := by
  rw [opB_eq]
  refine (stp_write (bs (opT o)) W h (by rw [bs_sizeL]; omega)).mono fun e w' ⟨he, h1, h2⟩ => ⟨he, ?_, h2⟩
  exact wr_cast (R := some l) h1 rfl (by rw [bs_sizeL]; omega)
/-- an operation in a box. -/
def BxO (w : World) (g : Nat) (t : Or) : Prop := w.heap[g]? = some (.cells #[.string t.nm, .int .i64 t.f, .int .i64 t.t] 48 (0, 0))
theorem bxo_lit (w : World) (t : Or) : BxO (w.alloc (.cells #[.string t.nm, .int .i64 t.f, .int .i64 t.t] 48)) w.heap.size t := by
  unfold BxO
  show (w.heap.push _)[w.heap.size]? = _
  rw [Array.getElem?_push_size]
theorem BxO.lt {w : World} {g : Nat} {t : Or} (h : BxO w g t) : g < w.heap.size := (Array.getElem?_eq_some_iff.1 h).1
theorem BxO.below {w w' : World} {g : Nat} {t : Or} (h : BxO w g t) (hb : Below w.heap.size w w') : BxO w' g t := (hb.block g h.lt).trans h
theorem BxO.cells {w : World} {g : Nat} {t : Or} (h : BxO w g t) : w.cell? ⟨g, 0, none⟩ = some (.string t.nm) ∧ w.cell? ⟨g, 1, none⟩ = some (.int .i64 t.f) ∧ w.cell? ⟨g, 2, none⟩ = some (.int .i64 t.t) ∧ g < w.heap.size := by
  have e := fun j => Lib.cell_of_heap h j
  exact ⟨(e 0).trans rfl, (e 1).trans rfl, (e 2).trans rfl, h.lt⟩
theorem BxO.bar {B G : Nat} {w w' : World} {g : Nat} {t : Or} (h : BxO w g t) (hb : BarP B G w w') (hne : g ≠ G) : BxO w' g t :=
  (hb.block g h.lt (by
    rintro ⟨_, h2 | ⟨cs, fr, h2⟩⟩
    · exact hne h2
    · rw [h] at h2; injection h2 with h2; injection h2 with _ h3 _; exact absurd h3 (by decide))).trans h
end Go.Proofs.YtidlljookjicpaaGreatDoor

/- show.Print: the program's text. -/
namespace Go.Proofs.YtidlljookjicpaaGreatDoor
open Go.RowKit
set_option linter.unusedVariables false
set_option linter.unusedSimpArgs false

set_option maxRecDepth 100000 in
set_option maxHeartbeats 1000000 in
theorem Print_any (a a2 : Option Addr) (n c n2 c2 : Nat) (os : List Or) (ts : List Nd) (T : PT) (w : World) (h : Hid (OArg w a n os)) (hsz : Hid (∀ t ∈ os, OrSz t)) (hl : n ≤ 140737488351232) (h2 : Hid (NArg w a2 n2 ts)) (hsz2 : Hid (∀ t ∈ ts, NdSz t)) (hl2 : n2 ≤ 140737488351232) (hg : Hid (errTy w)) (hTb : Hid (TabW w)) (hT : mayV os ts = true → MayT os ts T) :
    Calls Tryz.prog 9 #[.agg #[.slice a n c, .slice a2 n2 c2]] w fun e w' => e = .returned (.tuple #[.string (prS (prV os ts T)), .int .i64 (prE (prV os ts T))]) ∧ Below w.heap.size w w' := by
  have kM := Lib.hid fun (W : World) (hb : Below w.heap.size w W) => tMay_any a a2 n c n2 c2 os ts W (Lib.hid (h.out.below hb)) hsz hl (Lib.hid (h2.out.below hb)) hsz2 hl2 (Lib.hid (errTy_below hg.out hb))
  cases hm : mayV os ts
  · have hR := Lib.hid (show prV os ts T = none by unfold prV; rw [hm]; rfl)
    rw [hm] at kM
    generalize prV os ts T = R at hR ⊢
    clear hT hm
    go_enter Tryz.func9, Tryz.ntmps9
    go_wp2_with fail
    refine (kM.out _ (by (repeat' (first | with_reducible exact Below.refl _ _ | with_reducible assumption | with_reducible apply Below.setCell | with_reducible apply Below.alloc | with_reducible apply Below.drew | with_reducible apply below_drewN | with_reducible exact Nat.le_refl _ | (simp; done) | (simp; omega) | omega | exact Nat.le_refl _)))).mono ?_
    rintro e w1 ⟨rfl, hb1⟩
    have hB := Lib.hid (belT (show Below w.heap.size w _ from by (repeat' (first | with_reducible exact Below.refl _ _ | with_reducible assumption | with_reducible apply Below.setCell | with_reducible apply Below.alloc | with_reducible apply Below.drew | with_reducible apply below_drewN | with_reducible exact Nat.le_refl _ | (simp; done) | (simp; omega) | omega | exact Nat.le_refl _))) hb1)
    clear hb1
    go_wp2_with fail
    go_ret2
    exact ⟨by rw [hR.out]; rfl, hB.out⟩
  have hT := hT hm
  rw [hm] at kM
  have hn1 := h.out.1
  have hn2 := h2.out.1
  have t1 := hT.l1
  have t2 := hT.l2
  have t3 := hT.o4
  have t4 := hT.sz
  obtain ⟨b2, off2, rfl, hs2, hb2⟩ : ∃ b off, a2 = some ⟨b, off, none⟩ ∧ NdSl w b off ts ∧ b < w.heap.size := by
    rcases h2.out.2 with h0 | h0
    · rw [h0] at t1; cases t1
    · exact h0
  subst hn2
  have hs2 := Lib.hid hs2
  have ht4 := Lib.hid t4
  have hnH := Lib.hid hn1
  have hTT := Lib.hid hT
  have hat : Hid (∀ j, j < n → ∃ b off, a = some ⟨b, off, none⟩ ∧ OrAt w b off (os.getD j or0) j ∧ b < w.heap.size) := Lib.hid fun j hj => by
    rcases h.out.2 with rfl | ⟨b, off, h1, h2, h3⟩
    · simp at hn1; omega
    · exact ⟨b, off, h1, h2 j (by omega), h3⟩
  have hRv := Lib.hid (show prV os ts T = outV os T by unfold prV; rw [hm]; rfl)
  generalize prV os ts T = Rv at hRv ⊢
  clear hm t4 hn1 hT
  go_enter Tryz.func9, Tryz.ntmps9
  go_wp2_with fail
  have hP := Lib.hid (pg_lit w 25 w.heap.size rfl a (some ⟨b2, off2, none⟩) n c ts.length c2)
  have hbA : Below w.heap.size w (w.alloc (.cells #[.slice a n c, .slice (some ⟨b2, off2, none⟩) ts.length c2] 25)) := below_alc _ _
  generalize w.alloc (.cells #[.slice a n c, .slice (some ⟨b2, off2, none⟩) ts.length c2] 25) = wA at hP hbA ⊢
  refine (kM.out _ hbA).mono ?_
  rintro e w1 ⟨rfl, hb1⟩
  have hP := Lib.hid (hP.out.below hb1)
  have hB1 := Lib.hid (belT hbA hb1)
  clear hb1 hbA kM
  obtain ⟨hgl, hc0, hc1⟩ := hP.out
  go_wp2_with fail
  have hS0 := Lib.hid (stp_new (w0 := w1) (b := b2) (off := off2) (cp := c2) (ts := ts))
  generalize w1.alloc (.cells #[.pointer none, .slice none 0 0, .slice (some ⟨b2, off2, none⟩) ts.length c2, .bool false] 59) = w2 at hS0 ⊢
  have hlt2 := hS0.out.lt
  clear hc0 hc1
  go_loopw [16] (fun i wr => ∃ j : Nat, j ≤ n ∧ i = .int .i64 j ∧ Hid (StP w1 w1.heap.size b2 off2 c2 ts wr (some (opsT (os.take j))) (j * 36))) (fun i _ => n - (intOf i).toNat)
  case atStart => exact ⟨0, by omega, rfl, hS0⟩
  case round =>
    obtain ⟨j, hj, rfl, hS⟩ := hrel
    by_cases hlt : j < n
    · obtain ⟨b, off, rfl, hA, hbs⟩ := hat.out j hlt
      have hsT := Lib.hid (opsT_succ (os := os) (j := j) (by rw [← hnH.out]; exact hlt))
      have hbw := Lib.hid (belT hB1.out hS.out.1)
      have hT := hA.below hbw.out hbs
      have hok := hTT.out.os _ (getO_mem (ts := os) (j := j) (by rw [← hnH.out]; exact hlt))
      have hol := Lib.hid (opT_len hok)
      generalize os.getD j or0 = o at hT hsT hol hok
      have hnmL := Lib.hid (nm_len hok.1)
      have hj4 : j * 36 ≤ 144 := by have := hnH.out; omega
      clear hok
      obtain ⟨e0, e1, e2⟩ := hT
      have hbr : b < wr.heap.size := by have := hbw.out.size; omega
      have hlt' : (j : Int) < (n : Int) := by omega
      have hj0 : (0 : Int) ≤ (j : Int) := by omega
      have hlr := hS.out.lt
      have k1 := Lib.hid fun (W : World) => sbase_any o.f W
      have k2 := Lib.hid fun (W : World) => sbase_any o.t W
      go_upto_region 7 with fail
      have hX0 := Lib.hid (below_alc wr (.cells #[.string o.nm, .int .i64 o.f, .int .i64 o.t] 48))
      have hbo := Lib.hid (bxo_lit wr o)
      have hne : wr.heap.size ≠ w1.heap.size := by omega
      generalize wr.alloc (.cells #[.string o.nm, .int .i64 o.f, .int .i64 o.t] 48) = X at hX0 hbo ⊢
      have hS2 := Lib.hid ((hS.out.below hX0.out).below ((Below.refl _ _).drew))
      have hbo := Lib.hid (show BxO X.drew wr.heap.size o from hbo.out.below ((Below.refl _ _).drew))
      clear hX0 e0 e1 e2 hbr hlr hbw hA hbs
      generalize wr.heap.size = kx at hbo hne ⊢
      have kk := hbo.out.cells
      refine wp_region_held_drew (S := fun W => W.cell? ⟨kx, 0, none⟩ = some (.string o.nm) ∧ W.cell? ⟨kx, 1, none⟩ = some (.int .i64 o.f) ∧ W.cell? ⟨kx, 2, none⟩ = some (.int .i64 o.t) ∧ kx < W.heap.size) (by kernel_rfl) kk (fun hHeld => ?_)
      clear kk
      generalize X.drew = W2 at hHeld hS2 hbo ⊢
      have kW := Lib.hid (stp_opw o hol.out (opsT (os.take j)) (j * 36) W2 hS2 (by omega))
      have zn : o.nm.size ≤ 16 := hnmL.out
      have zf : (bs (bsT o.f)).size ≤ 4 := by rw [bs_sizeL]; exact bsT_len _
      have zt : (bs (bsT o.t)).size ≤ 4 := by rw [bs_sizeL]; exact bsT_len _
      clear hol hnmL
      refine rg_take 0 (some 20) (v := ?vp1) rfl rfl (by kernel_rfl) (by kernel_rfl) (by kernel_rfl) (fun _ _ _ h => h) (by rfl) ?hyp1 (by assumption) ?_
      case hyp1 => intro W hSW; (try dsimp only at hSW); go_simp; (try with_reducible rfl)
      try simp only [Act.put, List.setIfInBounds_toArray, List.set_cons_zero, List.set_cons_succ]
      refine rg_take 1 (some 21) (v := ?vp2) rfl rfl (by kernel_rfl) (by kernel_rfl) (by kernel_rfl) (fun _ _ _ h => h) (by rfl) ?hyp2 (by assumption) ?_
      case hyp2 => intro W hSW; (try dsimp only at hSW); go_simp; (try with_reducible rfl)
      try simp only [Act.put, List.setIfInBounds_toArray, List.set_cons_zero, List.set_cons_succ]
      refine rg_take 2 (some 22) (v := ?vp3) rfl rfl (by kernel_rfl) (by kernel_rfl) (by kernel_rfl) (fun _ _ _ h => h) (by rfl) ?hyp3 (by assumption) ?_
      case hyp3 => intro W hSW; (try dsimp only at hSW); go_simp; (try with_reducible rfl)
      try simp only [Act.put, List.setIfInBounds_toArray, List.set_cons_zero, List.set_cons_succ]
      refine rg_take 3 (some 23) (v := ?vp4) rfl rfl (by kernel_rfl) (by kernel_rfl) (by kernel_rfl) (fun _ _ _ h => h) (by rfl) ?hyp4 (by assumption) ?_
      case hyp4 => intro W hSW; (try dsimp only at hSW); go_simp; rw [if_neg (by omega)]
      try simp only [Act.put, List.setIfInBounds_toArray, List.set_cons_zero, List.set_cons_succ]
      refine rg_take 4 (some 24) (v := ?vp5) rfl rfl (by kernel_rfl) (by kernel_rfl) (by kernel_rfl) (fun _ _ _ h => h) (by rfl) ?hyp5 (by assumption) ?_
      case hyp5 => intro W hSW; (try dsimp only at hSW); go_simp; rw [if_neg (by omega)]
      try simp only [Act.put, List.setIfInBounds_toArray, List.set_cons_zero, List.set_cons_succ]
      refine rg_take 5 (some 25) (v := ?vp6) rfl rfl (by kernel_rfl) (by kernel_rfl) (by kernel_rfl) (fun _ _ _ h => h) (by rfl) ?hyp6 (by assumption) ?_
      case hyp6 => intro W hSW; (try dsimp only at hSW); go_simp; (try with_reducible rfl)
      try simp only [Act.put, List.setIfInBounds_toArray, List.set_cons_zero, List.set_cons_succ]
      refine rg_take 6 (some 26) (v := ?vp7) rfl rfl (by kernel_rfl) (by kernel_rfl) (by kernel_rfl) (fun _ _ _ h => h) (by rfl) ?hyp7 (by assumption) ?_
      case hyp7 => intro W hSW; (try dsimp only at hSW); go_simp; (try with_reducible rfl)
      try simp only [Act.put, List.setIfInBounds_toArray, List.set_cons_zero, List.set_cons_succ]
      refine rg_take 10 (some 30) (v := ?vp8) rfl rfl (by kernel_rfl) (by kernel_rfl) (by kernel_rfl) (fun _ _ _ h => h) (by rfl) ?hyp8 (by assumption) ?_
      case hyp8 => intro W hSW; (try dsimp only at hSW); go_simp; (try with_reducible rfl)
      try simp only [Act.put, List.setIfInBounds_toArray, List.set_cons_zero, List.set_cons_succ]
      refine rg_take 11 (some 31) (v := ?vp9) rfl rfl (by kernel_rfl) (by kernel_rfl) (by kernel_rfl) (fun _ _ _ h => h) (by rfl) ?hyp9 (by assumption) ?_
      case hyp9 => intro W hSW; (try dsimp only at hSW); go_simp; (try with_reducible rfl)
      try simp only [Act.put, List.setIfInBounds_toArray, List.set_cons_zero, List.set_cons_succ]
      refine rg_one 7 rfl (by kernel_rfl) (by rfl) (fun K hK => ?_)
      go_simp
      (go_at_call 23; refine (k1.out _).mono ?_; rintro e w3 ⟨rfl, rfl⟩)
      refine hK.out _ _ hHeld (fun hHeld7 => ?_)
      clear hK K hHeld
      try simp only [Act.put, List.setIfInBounds_toArray, List.set_cons_zero, List.set_cons_succ]
      refine rg_take 8 (some 28) (v := ?vp10) rfl rfl (by kernel_rfl) (by kernel_rfl) (by kernel_rfl) (fun _ _ _ h => h) (by rfl) ?hyp10 (by assumption) ?_
      case hyp10 => intro W hSW; (try dsimp only at hSW); go_simp; rw [if_neg (by omega)]
      try simp only [Act.put, List.setIfInBounds_toArray, List.set_cons_zero, List.set_cons_succ]
      refine rg_take 9 (some 29) (v := ?vp11) rfl rfl (by kernel_rfl) (by kernel_rfl) (by kernel_rfl) (fun _ _ _ h => h) (by rfl) ?hyp11 (by assumption) ?_
      case hyp11 => intro W hSW; (try dsimp only at hSW); go_simp; rw [if_neg (by omega)]
      try simp only [Act.put, List.setIfInBounds_toArray, List.set_cons_zero, List.set_cons_succ]
      refine rg_one 12 rfl (by kernel_rfl) (by rfl) (fun K hK => ?_)
      go_simp
      (go_at_call 23; refine (k2.out _).mono ?_; rintro e w3 ⟨rfl, rfl⟩)
      refine hK.out _ _ hHeld7 (fun hHeld12 => ?_)
      clear hK K hHeld7
      try simp only [Act.put, List.setIfInBounds_toArray, List.set_cons_zero, List.set_cons_succ]
      refine rg_take 13 (some 33) (v := ?vp12) rfl rfl (by kernel_rfl) (by kernel_rfl) (by kernel_rfl) (fun _ _ _ h => h) (by rfl) ?hyp12 (by assumption) ?_
      case hyp12 => intro W hSW; (try dsimp only at hSW); go_simp; rw [if_neg (by omega)]
      try simp only [Act.put, List.setIfInBounds_toArray, List.set_cons_zero, List.set_cons_succ]
      refine rg_take 14 (some 34) (v := ?vp13) rfl rfl (by kernel_rfl) (by kernel_rfl) (by kernel_rfl) (fun _ _ _ h => h) (by rfl) ?hyp13 (by assumption) ?_
      case hyp13 => intro W hSW; (try dsimp only at hSW); go_simp; rw [if_neg (by omega)]
      try simp only [Act.put, List.setIfInBounds_toArray, List.set_cons_zero, List.set_cons_succ]
      refine rg_one 15 rfl (by kernel_rfl) (by rfl) (fun K hK => ?_)
      go_simp
      (go_at_call 22; refine kW.out.mono ?_; rintro e w4 ⟨rfl, hS4, hb4⟩)
      refine hK.out _ _ (hbo.out.bar hb4 hne).cells (fun hHeld15 => ?_)
      clear hK K hHeld12
      try simp only [Act.put, List.setIfInBounds_toArray, List.set_cons_zero, List.set_cons_succ]
      refine wpAnyH_done (by kernel_rfl) ?_ _
      have hS4 := Lib.hid (show StP w1 w1.heap.size b2 off2 c2 ts w4 (some (opsT (os.take (j + 1)))) ((j + 1) * 36) from by rw [hsT.out]; exact hS4.mono (by omega))
      clear hb4 hS2 hS hHeld15
      go_wp2_with fail
      go_round
      case rel => exact ⟨j + 1, by omega, by go_num, hS4⟩
      case measure => simp [intOf]; omega
    · have hS := Lib.hid (show StP w1 w1.heap.size b2 off2 c2 ts wr (some (opsT os)) 144 from by
        have := hS.out
        rw [List.take_of_length_le (by have := hnH.out; omega)] at this
        exact this.mono (by have := hnH.out; omega))
      have hjn : ¬ (j : Int) < (n : Int) := by omega
      have hP2 := Lib.hid (hP.out.below hS.out.1)
      obtain ⟨hgl2, hc0, hc1⟩ := hP2.out
      have hlr := hS.out.lt
      have hsb := Lib.hid (hB1.out.size)
      have hTb1 : Hid (TabW w1) := Lib.hid (tab_keep hTb.out hB1.out (Nat.le_refl _))
      have hs1 : Hid (NdSl w1 b2 off2 ts) := Lib.hid (hs2.out.below hB1.out hb2)
      have kE := Lib.hid (show Calls Tryz.prog 24 #[.pointer (some ⟨w1.heap.size, 0, none⟩), .int .i64 ((ts.length : Int) - 1), .int .i64 0] wr (fun e w' => e = .returned (.tuple #[]) ∧ StP w1 w1.heap.size b2 off2 c2 ts w' (exO T 0 (some (opsT os))) (144 + T.sz * 150)) from by
        have hz := T.sz1
        have := (PT.wr (G := w1.heap.size) (cp := c2) t2 hs1 (by have := hsb.out; omega) hTb1 T hTT.out.ok).2.1 (ts.length - 1) 0 wr (some (opsT os)) 144 hTT.out.at_ (by omega) (by omega) (by have := ht4.out; omega) hS
        rw [show ((ts.length - 1 : Nat) : Int) = (ts.length : Int) - 1 by omega] at this
        exact this.mono fun e w' ⟨h1, h2, h3⟩ => ⟨h1, h2.mono (by omega)⟩)
      clear hTb1 hs1 hs2 hsb
      go_wp2_with fail
      refine kE.out.mono ?_
      rintro e w3 ⟨rfl, hS3⟩
      obtain ⟨hB3, l, td, hp, hlm, hor⟩ := hS3
      obtain ⟨p0, p1, p2, p3, p4⟩ := hp.cells
      have hp := Lib.hid hp
      have hBw := Lib.hid (belT hB1.out hB3)
      clear kE hS hlr hP2 hgl2 hc0 hc1 hB3 p4
      rcases hor with ⟨hR, rfl⟩ | ⟨hR, rfl⟩
      · have hl : Hid (T.ins + 1 ≤ 40 ∧ l = opsT os ++ T.tx) := Lib.hid (by
          have hR : (if 0 + T.ins + 1 ≤ 40 then some (opsT os ++ T.tx) else none) = some l := hR
          split at hR
          · rename_i hc; injection hR with hR; exact ⟨by omega, hR.symm⟩
          · cases hR)
        clear hR
        have hlmax := hTT.out
        have hlen : l.length ≤ 1000000 := by have := ht4.out; omega
        clear hlmax
        have kL := Lib.hid (pn_len w1.heap.size w1.heap.size l _ _ w3 hp)
        go_wp2_with fail
        refine kL.out.mono ?_
        rintro e w4 ⟨rfl, rfl⟩
        clear kL
        by_cases h40 : l.length ≤ 4096
        · have hv : Hid (Rv = some l) := Lib.hid (by
            rw [hRv.out]; unfold outV
            rw [if_pos ⟨hl.out.1, by rw [← hl.out.2]; exact h40⟩, ← hl.out.2])
          have kT := Lib.hid (pn_text w1.heap.size w1.heap.size l _ _ w3 hp (by rw [hl.out.2]; intro h; exact T.tx_ne hTT.out.ok (List.append_eq_nil_iff.1 h).2))
          have hn40 : ¬ ((4096 : Int) < (l.length : Int)) := by omega
          clear hl hlm
          go_wp2_with fail
          refine kT.out.mono ?_
          rintro e w5 ⟨rfl, hb5⟩
          have hBw := Lib.hid (hBw.out.trans (hb5.mono (Nat.le_of_lt hgl)))
          clear hb5 kT
          go_wp2_with fail
          go_ret2
          exact ⟨by rw [hv.out]; rfl, hBw.out⟩
        · have hv : Hid (Rv = none) := Lib.hid (by
            rw [hRv.out]; unfold outV
            rw [if_neg (by rintro ⟨_, h⟩; rw [← hl.out.2] at h; exact h40 h)])
          have hn40 : (4096 : Int) < (l.length : Int) := by omega
          clear hl hlm
          go_wp2_with fail
          go_ret2
          exact ⟨by rw [hv.out]; rfl, hBw.out⟩
      · have hv : Hid (Rv = none) := Lib.hid (by
          have hR : (if 0 + T.ins + 1 ≤ 40 then some (opsT os ++ T.tx) else none) = none := hR
          split at hR
          · cases hR
          · rename_i hc
            rw [hRv.out]; unfold outV
            rw [if_neg (by rintro ⟨h, _⟩; exact hc (by omega))])
        clear hR hlm
        go_wp2_with fail
        go_ret2
        exact ⟨by rw [hv.out]; rfl, hBw.out⟩
end Go.Proofs.YtidlljookjicpaaGreatDoor

/- Layer 5's awake. -/
namespace Go.Proofs.YtidlljookjicpaaGreatDoor
open Go.RowKit
set_option linter.unusedVariables false
set_option linter.unusedSimpArgs false

theorem mayT_ex (os : List Or) (ts : List Nd) : ∃ T, mayV os ts = true → MayT os ts T := by
  cases h : mayV os ts
  · exact ⟨.int 0, fun h => by cases h⟩
  · obtain ⟨T, hT⟩ := may_T h
    exact ⟨T, fun _ => hT⟩
theorem prE_bd (R : Option (List UInt8)) : 0 ≤ prE R ∧ prE R ≤ 500 := by cases R <;> simp [prE]
def aw5O : List Or := [⟨⟨#[97]⟩, 0, 1⟩]
def aw5N : List Nd := [⟨0, 0, 0, 0, 0, ⟨#[102]⟩, ⟨#[]⟩, ⟨#[]⟩, ⟨#[]⟩, 0⟩, ⟨0, 0, 0, 0, 0, ⟨#[120]⟩, ⟨#[]⟩, ⟨#[]⟩, ⟨#[]⟩, 0⟩, ⟨1, 0, 0, 0, 2, ⟨#[]⟩, ⟨#[]⟩, ⟨#[]⟩, ⟨#[]⟩, 0⟩, ⟨8, 1, 2, 0, 4, ⟨#[]⟩, ⟨#[]⟩, ⟨#[]⟩, ⟨#[]⟩, 0⟩, ⟨4, 0, 3, 0, 0, ⟨#[]⟩, ⟨#[]⟩, ⟨#[]⟩, ⟨#[]⟩, 0⟩]
def aw5T : PT := .app (.var ⟨#[102]⟩) (.pr 4 (.var ⟨#[120]⟩) (.int 2))
theorem itoa_dig (n : Nat) (h : n < 10) : Lib.itoa n = [UInt8.ofNat (48 + n)] := by
  rw [show Lib.itoa ((n : Nat) : Int) = Lib.decDigits n from itoa_nat n, Lib.decDigits, dif_pos h]
theorem aw5_ok : aw5T.ok := ⟨(by decide : nmB (⟨#[102]⟩ : ByteArray).data.toList = true), ⟨by decide, by decide⟩, (by decide : nmB (⟨#[120]⟩ : ByteArray).data.toList = true), by decide, by decide⟩
theorem aw5_T : MayT aw5O aw5N aw5T := mayT_of aw5_ok (fun o ho => by
  rcases List.mem_singleton.1 ho with rfl
  exact ⟨by decide, .inl rfl, .inr rfl⟩) (by decide) (by decide) rfl
theorem aw5_may : mayV aw5O aw5N = true := by unfold mayV; rw [tree_c]; decide +kernel
theorem aw5_tx : opsT aw5O ++ aw5T.tx = [111, 112, 32, 97, 32, 58, 32, 105, 110, 116, 32, 45, 62, 32, 98, 111, 111, 108, 59, 32, 102, 32, 40, 120, 32, 61, 61, 32, 50, 41] := by
  have h : Lib.itoa (2 : Int) = [50] := itoa_dig 2 (by decide)
  simp only [aw5T, PT.tx, PT.atm, brS, h]
  decide
theorem aw5_pr : prV aw5O aw5N aw5T = some [111, 112, 32, 97, 32, 58, 32, 105, 110, 116, 32, 45, 62, 32, 98, 111, 111, 108, 59, 32, 102, 32, 40, 120, 32, 61, 61, 32, 50, 41] := by
  unfold prV outV
  rw [aw5_may, if_pos rfl, aw5_tx, if_pos ⟨by decide, by decide⟩]
theorem no5_may : mayV [] [] = false := by unfold mayV treeV; simp
theorem no5_pr (T : PT) : prV [] [] T = none := by
  unfold prV; rw [no5_may]; rfl
set_option maxRecDepth 100000 in
set_option maxHeartbeats 2000000 in
theorem awake5_any (w : World) (hg : Hid (errTy w)) (hTb : Hid (TabW w)) : Calls Tryz.prog 13 #[] w fun e w' => e = .returned (.bool true) ∧ Below w.heap.size w w' := by
  have k1 := Lib.hid fun (W : World) (hb : Below w.heap.size w W) (a a2 : Option Addr) (hO : OArg W a 1 aw5O) (hN : NArg W a2 5 aw5N) => Print_any a a2 1 1 5 5 aw5O aw5N aw5T W (Lib.hid hO) (Lib.hid (by intro t ht; rcases List.mem_singleton.1 ht with rfl; exact nm_sz (by decide))) (by omega) (Lib.hid hN) (Lib.hid (by intro t ht; exact ok_sz (by revert t; decide +kernel))) (by omega) (Lib.hid (errTy_below hg.out hb)) (Lib.hid (tab_keep hTb.out hb (Nat.le_refl _))) fun _ => aw5_T
  rw [aw5_pr] at k1
  have k2 := Lib.hid fun (W : World) (hb : Below w.heap.size w W) => Print_any none none 0 0 0 0 [] [] aw5T W (Lib.hid ⟨rfl, .inl rfl⟩) (Lib.hid (by simp)) (by omega) (Lib.hid ⟨rfl, .inl rfl⟩) (Lib.hid (by simp)) (by omega) (Lib.hid (errTy_below hg.out hb)) (Lib.hid (tab_keep hTb.out hb (Nat.le_refl _))) fun h => by rw [no5_may] at h; cases h
  rw [no5_pr] at k2
  go_enter Tryz.func13, Tryz.ntmps13
  go_wp2_with fail
  have hO := oarg_alloc w #[.string ⟨#[97]⟩, .int .i64 0, .int .i64 1] aw5O rfl 1 rfl
  have hN := narg_alloc (w.alloc (.cells #[.string ⟨#[97]⟩, .int .i64 0, .int .i64 1] 48)) #[.int .i64 0, .int .i64 0, .int .i64 0, .int .i64 0, .int .i64 0, .string ⟨#[102]⟩, .string ⟨#[]⟩, .string ⟨#[]⟩, .string ⟨#[]⟩, .int .i64 0, .int .i64 0, .int .i64 0, .int .i64 0, .int .i64 0, .int .i64 0, .string ⟨#[120]⟩, .string ⟨#[]⟩, .string ⟨#[]⟩, .string ⟨#[]⟩, .int .i64 0, .int .i64 1, .int .i64 0, .int .i64 0, .int .i64 0, .int .i64 2, .string ⟨#[]⟩, .string ⟨#[]⟩, .string ⟨#[]⟩, .string ⟨#[]⟩, .int .i64 0, .int .i64 8, .int .i64 1, .int .i64 2, .int .i64 0, .int .i64 4, .string ⟨#[]⟩, .string ⟨#[]⟩, .string ⟨#[]⟩, .string ⟨#[]⟩, .int .i64 0, .int .i64 4, .int .i64 0, .int .i64 3, .int .i64 0, .int .i64 0, .string ⟨#[]⟩, .string ⟨#[]⟩, .string ⟨#[]⟩, .string ⟨#[]⟩, .int .i64 0] aw5N rfl 5 rfl
  rw [show (w.alloc (.cells #[.string ⟨#[97]⟩, .int .i64 0, .int .i64 1] 48)).heap.size = w.heap.size + 1 by simp] at hN
  refine (k1.out _ (by (repeat' (first | with_reducible exact Below.refl _ _ | with_reducible assumption | with_reducible apply Below.setCell | with_reducible apply Below.alloc | with_reducible apply Below.drew | with_reducible apply below_drewN | with_reducible exact Nat.le_refl _ | (simp; done) | (simp; omega) | omega | exact Nat.le_refl _))) _ _ ((hO.below (below_alc _ _)).below (below_alc _ _)) (hN.below (below_alc _ _))).mono ?_
  rintro e w1 ⟨rfl, hb1⟩
  have hB1 := Lib.hid (belT (show Below w.heap.size w _ from by (repeat' (first | with_reducible exact Below.refl _ _ | with_reducible assumption | with_reducible apply Below.setCell | with_reducible apply Below.alloc | with_reducible apply Below.drew | with_reducible apply below_drewN | with_reducible exact Nat.le_refl _ | (simp; done) | (simp; omega) | omega | exact Nat.le_refl _))) hb1)
  clear hb1 hO hN k1
  simp only [prS, prE, show bs [111, 112, 32, 97, 32, 58, 32, 105, 110, 116, 32, 45, 62, 32, 98, 111, 111, 108, 59, 32, 102, 32, 40, 120, 32, 61, 61, 32, 50, 41] = ⟨#[111, 112, 32, 97, 32, 58, 32, 105, 110, 116, 32, 45, 62, 32, 98, 111, 111, 108, 59, 32, 102, 32, 40, 120, 32, 61, 61, 32, 50, 41]⟩ from rfl]
  go_wp2_with fail
  refine (k2.out _ (by first | exact hB1.out | exact belT hB1.out (by (repeat' (first | with_reducible exact Below.refl _ _ | with_reducible assumption | with_reducible apply Below.setCell | with_reducible apply Below.alloc | with_reducible apply Below.drew | with_reducible apply below_drewN | with_reducible exact Nat.le_refl _ | (simp; done) | (simp; omega) | omega | exact Nat.le_refl _))))).mono ?_
  rintro e w2 ⟨rfl, hb2⟩
  have hB2 := Lib.hid (belT (show Below w.heap.size w _ from by first | exact hB1.out | exact belT hB1.out (by (repeat' (first | with_reducible exact Below.refl _ _ | with_reducible assumption | with_reducible apply Below.setCell | with_reducible apply Below.alloc | with_reducible apply Below.drew | with_reducible apply below_drewN | with_reducible exact Nat.le_refl _ | (simp; done) | (simp; omega) | omega | exact Nat.le_refl _)))) hb2)
  clear hb2 hB1 k2
  simp only [prS, prE]
  go_wp2_with ((go_at_call 11; refine (num_any _ _ (by omega) (by omega)).mono ?_; rintro e w' ⟨rfl, rfl⟩))
  go_ret
  exact ⟨rfl, hB2.out⟩
end Go.Proofs.YtidlljookjicpaaGreatDoor
