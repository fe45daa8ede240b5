/- scheme.take. -/
import Derived.Test.YtjhmdobmbajcgaaTkA
namespace Go.Proofs.Ytjhmdobmbajcgaa
open Go.RowKit
set_option linter.unusedVariables false
set_option linter.unusedSimpArgs false

/-- a refusal that wraps a number. -/
def TkRef (w' : World) (v : Value) (k : Int) : Prop := ∃ g, v = .iface 138 (.pointer (some ⟨g, 0, none⟩)) ∧ w'.cell? ⟨g, 1, none⟩ = some (.iface 31 (.int .i64 k)) ∧ g < w'.heap.size
def TakePost (ks : List Int) (xs : List Tp) (ms : List Int) (rs : List Rw) (ts : List Ty) (w : World) (e : Ending) (w' : World) : Prop :=
  Below w.heap.size w w' ∧ if tkOk ks xs ms rs then
    (if subE (tkB ks xs ms rs) ts = 0 then ∃ v, e = .returned (.tuple #[.agg #[v], .nilIface]) ∧ OwnT w.heap.size w' v (subT (tkB ks xs ms rs) ts)
     else ∃ r, e = .returned (.tuple #[.agg #[.slice none 0 0], r]) ∧ TkRef w' r 900)
    else ∃ r, e = .returned (.tuple #[.agg #[.slice none 0 0], r]) ∧ TkRef w' r 1200
/-- the memory that take has of its own. -/
def TkW (w : World) (a1 : Option Addr) (n1 c1 : Nat) (a2 : Option Addr) (n2 c2 : Nat) (a3 : Option Addr) (n3 c3 : Nat) (W : World) : Prop :=
  w.heap.size + 1 < W.heap.size ∧ W.cell? ⟨w.heap.size, 0, none⟩ = some (.slice a1 n1 c1) ∧ W.cell? ⟨w.heap.size, 1, none⟩ = some (.slice a2 n2 c2) ∧ W.cell? ⟨w.heap.size, 2, none⟩ = some (.slice a3 n3 c3) ∧ W.cell? ⟨w.heap.size + 1, 0, none⟩ = some (.slice none 0 0) ∧ W.frozen? ⟨w.heap.size + 1, 0, none⟩ = false ∧ Below w.heap.size w W
theorem TkW.below {w W W' : World} {a1 a2 a3 : Option Addr} {n1 c1 n2 c2 n3 c3 : Nat} (h : TkW w a1 n1 c1 a2 n2 c2 a3 n3 c3 W) (hb : Below W.heap.size W W') : TkW w a1 n1 c1 a2 n2 c2 a3 n3 c3 W' := by
  obtain ⟨h0, h1, h2, h3, h4, h5, h6⟩ := h
  exact ⟨by have := hb.size; omega, carry hb (by omega) h1, carry hb (by omega) h2, carry hb (by omega) h3, carry hb h0 h4, by rw [hb.frozen (p := ⟨w.heap.size + 1, 0, none⟩) h0]; exact h5, belT h6 hb⟩
theorem tkW_mk (w : World) (a1 : Option Addr) (n1 c1 : Nat) (a2 : Option Addr) (n2 c2 : Nat) (a3 : Option Addr) (n3 c3 : Nat) (T T' : TypeId) : TkW w a1 n1 c1 a2 n2 c2 a3 n3 c3 ((w.alloc (.cells #[.slice a1 n1 c1, .slice a2 n2 c2, .slice a3 n3 c3] T)).alloc (.cells #[.slice none 0 0] T')) :=
  ⟨by simp, by simp, by simp, by simp, by simp, by simp [go_sem], below_alc2 w _ _⟩
theorem tk_bad {w W : World} {ks ms : List Int} {xs : List Tp} {rs : List Rw} {ts : List Ty} (h : tkOk ks xs ms rs = false) (hW : Below w.heap.size w W) {r : Value} (hr : TkRef W r 1200) : TakePost ks xs ms rs ts w (.returned (.tuple #[.agg #[.slice none 0 0], r])) W := by
  refine ⟨hW, ?_⟩
  rw [h]
  exact ⟨r, rfl, hr⟩
theorem tkOk_len {ks ms : List Int} {xs : List Tp} {rs : List Rw} (h : ¬ (xs.length = ks.length ∧ rs.length = ms.length)) : tkOk ks xs ms rs = false := by
  cases hq : tkOk ks xs ms rs
  · rfl
  · unfold tkOk at hq
    simp only [Bool.and_eq_true, decide_eq_true_eq] at hq
    exact absurd hq.2 h
theorem tkRef_mk {W : World} {s : Value} {k : Int} {T : TypeId} {p : Addr} {v : Value} (hp : p.block < W.heap.size) : TkRef ((W.setCell p v).alloc (.cells #[s, .iface 31 (.int .i64 k)] T)) (.iface 138 (.pointer (some ⟨W.heap.size, 0, none⟩))) k :=
  ⟨W.heap.size, rfl, by rw [World.cell?_alloc_at _ _ _ _ (by simp [World.setCell])]; rfl, by simp [World.setCell]⟩
theorem tkRef_mk2 {W : World} {s : Value} {k : Int} {T : TypeId} {p : Addr} {v : Value} (hp : p.block < W.heap.size) : TkRef ((W.alloc (.cells #[s, .iface 31 (.int .i64 k)] T)).setCell p v) (.iface 138 (.pointer (some ⟨W.heap.size, 0, none⟩))) k := by
  refine ⟨W.heap.size, rfl, ?_, by simp⟩
  rw [World.cell?_setCell_other _ _ _ _ (by intro e; subst e; exact absurd hp (Nat.lt_irrefl _))]
  simp
theorem tkRef_mk3 {W : World} {s : Value} {k : Int} {T : TypeId} {p : Addr} {v : Value} {o : Obj} (hp : p.block < W.heap.size) : TkRef (((W.alloc o).alloc (.cells #[s, .iface 31 (.int .i64 k)] T)).setCell p v) (.iface 138 (.pointer (some ⟨W.heap.size + 1, 0, none⟩))) k := by
  have := tkRef_mk2 (W := W.alloc o) (s := s) (k := k) (T := T) (p := p) (v := v) (by simp; omega)
  rwa [show (W.alloc o).heap.size = W.heap.size + 1 by simp] at this
theorem tkRef_mk4 {W : World} {s : Value} {k : Int} {T : TypeId} {p : Addr} {v : Value} {o : Obj} (hp : p.block < W.heap.size) : TkRef (((W.setCell p v).alloc o).alloc (.cells #[s, .iface 31 (.int .i64 k)] T)) (.iface 138 (.pointer (some ⟨W.heap.size + 1, 0, none⟩))) k :=
  ⟨W.heap.size + 1, rfl, by rw [World.cell?_alloc_at _ _ _ _ (by simp [World.setCell])]; rfl, by simp [World.setCell]⟩
set_option maxRecDepth 100000 in
set_option maxHeartbeats 8000000 in
theorem take_any (a1 : Option Addr) (n1 c1 : Nat) (a2 : Option Addr) (n2 c2 : Nat) (a3 : Option Addr) (n3 c3 : Nat) (a4 : Option Addr) (n4 c4 : Nat) (a5 : Option Addr) (n5 c5 : Nat) (ks ms : List Int) (ts : List Ty) (xs : List Tp) (rs : List Rw) (w : World)
    (h1 : Hid (IsArg w a1 n1 ks)) (h2 : Hid (IsArg w a2 n2 ms)) (h3 : Hid (TyArg w a3 n3 ts)) (h4 : Hid (TpArg w a4 n4 xs)) (h5 : Hid (RwArg w a5 n5 rs)) (hw1 : Hid (∀ x ∈ ks, (Lit.int .i64 x).wf = true)) (hw2 : Hid (∀ x ∈ ms, (Lit.int .i64 x).wf = true))
    (hl1 : n1 ≤ 140737488351232) (hl2 : n2 ≤ 140737488351232) (hl3 : n3 ≤ 140737488351232) (hl4 : n4 ≤ 140737488351232) (hl5 : n5 ≤ 140737488351232) :
    Calls Try.prog 61 #[.agg #[.slice a1 n1 c1, .slice a2 n2 c2, .slice a3 n3 c3], .slice a4 n4 c4, .slice a5 n5 c5] w (TakePost ks xs ms rs ts w) := by
  have kD1 := Lib.hid fun (W : World) (hb : Below w.heap.size w W) => distinct_any a1 n1 c1 ks W (Lib.hid (h1.out.below hb)) hl1 hw1
  have kD2 := Lib.hid fun (W : World) (hb : Below w.heap.size w W) => distinct_any a2 n2 c2 ms W (Lib.hid (h2.out.below hb)) hl2 hw2
  have hW0 := Lib.hid (tkW_mk w a1 n1 c1 a2 n2 c2 a3 n3 c3 56 25)
  have hn1 := Lib.hid h1.out.1; have hn2 := Lib.hid h2.out.1; have hn4 := Lib.hid h4.out.1; have hn5 := Lib.hid h5.out.1
  cases hd1 : dsI ks
  · rw [hd1] at kD1
    have hbad := Lib.hid fun (W : World) (r : Value) hW hr => tk_bad (w := w) (W := W) (ks := ks) (ms := ms) (xs := xs) (rs := rs) (ts := ts) (r := r) (by unfold tkOk; rw [hd1]; rfl) hW hr
    clear hd1
    go_enter Try.func61, Try.ntmps61
    go_wp2_with fail
    refine (kD1.out _ (below_alc2 w _ _)).mono ?_
    rintro e w1 ⟨rfl, hb1⟩
    have hW1 := Lib.hid (hW0.out.below hb1)
    clear hb1
    obtain ⟨x0, x1, x2, x3, x4, x5, x6⟩ := hW1.out
    go_wp2_with fail
    exact bodyPost_ret (v := .tuple #[.agg #[.slice none 0 0], .iface 138 (.pointer (some ⟨w1.heap.size, 0, none⟩))]) (by simp [results, Try.results61, go_sem, x4, x0]) rfl (hbad.out _ _ (by (repeat' (first | with_reducible exact Below.refl _ _ | with_reducible assumption | with_reducible apply Below.setCell | with_reducible apply Below.alloc | with_reducible apply Below.drew | with_reducible apply below_drewN | with_reducible exact Nat.le_refl _ | (simp; done) | (simp; omega) | omega | exact Nat.le_refl _))) (by first | exact tkRef_mk x0 | exact tkRef_mk2 x0))
  cases hd2 : dsI ms
  · rw [hd1] at kD1
    rw [hd2] at kD2
    have hbad := Lib.hid fun (W : World) (r : Value) hW hr => tk_bad (w := w) (W := W) (ks := ks) (ms := ms) (xs := xs) (rs := rs) (ts := ts) (r := r) (by unfold tkOk; rw [hd1, hd2]; rfl) hW hr
    clear hd1 hd2
    go_enter Try.func61, Try.ntmps61
    go_wp2_with fail
    refine (kD1.out _ (below_alc2 w _ _)).mono ?_
    rintro e w1 ⟨rfl, hb1⟩
    have hW1 := Lib.hid (hW0.out.below hb1)
    clear hb1
    obtain ⟨x0, x1, x2, x3, x4, x5, x6⟩ := hW1.out
    go_wp2_with fail
    refine (kD2.out _ x6).mono ?_
    rintro e w2 ⟨rfl, hb2⟩
    have hW2 := Lib.hid (hW1.out.below hb2)
    clear hb2 x0 x1 x2 x3 x4 x5 x6
    obtain ⟨x0, x1, x2, x3, x4, x5, x6⟩ := hW2.out
    go_wp2_with fail
    exact bodyPost_ret (v := .tuple #[.agg #[.slice none 0 0], .iface 138 (.pointer (some ⟨w2.heap.size, 0, none⟩))]) (by simp [results, Try.results61, go_sem, x4, x0]) rfl (hbad.out _ _ (by (repeat' (first | with_reducible exact Below.refl _ _ | with_reducible assumption | with_reducible apply Below.setCell | with_reducible apply Below.alloc | with_reducible apply Below.drew | with_reducible apply below_drewN | with_reducible exact Nat.le_refl _ | (simp; done) | (simp; omega) | omega | exact Nat.le_refl _))) (by first | exact tkRef_mk x0 | exact tkRef_mk2 x0))
  rw [hd1] at kD1
  rw [hd2] at kD2
  have hkl := dsI_len hd1
  have hml := dsI_len hd2
  by_cases hlen : xs.length = ks.length ∧ rs.length = ms.length
  · obtain ⟨hle1, hle2⟩ := hlen
    have hok : Hid (tkOk ks xs ms rs = true) := Lib.hid (by unfold tkOk; rw [hd1, hd2, decide_eq_true hle1, decide_eq_true hle2]; rfl)
    obtain rfl : n4 = n1 := by have := hn1.out; have := hn4.out; omega
    obtain rfl : n5 = n2 := by have := hn2.out; have := hn5.out; omega
    have hk1 : n4 = ks.length := hn1.out
    have hk2 : n5 = ms.length := hn2.out
    subst hk1 hk2
    have hle1 := Lib.hid hle1; have hle2 := Lib.hid hle2
    clear hd1 hd2
    go_enter Try.func61, Try.ntmps61
    go_wp2_with fail
    refine (kD1.out _ (below_alc2 w _ _)).mono ?_
    rintro e w1 ⟨rfl, hb1⟩
    have hW1 := Lib.hid (hW0.out.below hb1)
    clear hb1
    obtain ⟨x0, x1, x2, x3, x4, x5, x6⟩ := hW1.out
    go_wp2_with fail
    refine (kD2.out _ x6).mono ?_
    rintro e w2 ⟨rfl, hb2⟩
    have hW2 := Lib.hid (hW1.out.below hb2)
    clear hb2 x0 x1 x2 x3 x4 x5 x6
    obtain ⟨x0, x1, x2, x3, x4, x5, x6⟩ := hW2.out
    go_wp2_with fail
    clear x0 x1 x2 x3 x4 x5 x6
    go_loopw [8, 52] (fun bv i wr => ∃ j : Nat, j ≤ ks.length ∧ i = .int .i64 j ∧ Hid (Below w2.heap.size w2 wr ∧ OwnB w2.heap.size wr bv (tbA ks xs j))) (fun _ i _ => ks.length - (intOf i).toNat)
    case atStart => exact ⟨0, by omega, rfl, Lib.hid ⟨Below.refl _ _, OwnB.nil _ _⟩⟩
    case round =>
      obtain ⟨j, hj, rfl, hI⟩ := hrel
      have hbw := hI.out.1
      have hO := Lib.hid hI.out.2
      have hww := Lib.hid (hW2.out.2.2.2.2.2.2.trans (hbw.mono (by have := hW2.out.1; omega)))
      have hws := hbw.size
      have hbw := Lib.hid hbw
      have hw2s := hW2.out.1
      obtain ⟨va, vn, vc, hve⟩ := ownB_sl hO.out
      subst hve
      by_cases hlt : j < ks.length
      · obtain ⟨b, off, rfl, hs, hb⟩ := isArg_at h1.out.2 hlt
        obtain ⟨b', off', rfl, hs', hb'⟩ := tpArg_at h4.out (show j < xs.length by have := hle1.out; omega)
        have hc := hs.below hww.out hb j hlt
        have hc' := carry hww.out hb' (hs' j (by have := hle1.out; omega)).1
        have hsu := Lib.hid (tbA_succ ks xs j)
        have htl := tbA_len ks xs j
        generalize ks.getD j 0 = k at hc hsu
        generalize xs.getD j tp0 = x at hc' hsu
        obtain ⟨L, hL⟩ : ∃ L, tbA ks xs j = L := ⟨_, rfl⟩
        rw [hL] at hO hsu htl
        have htl2 : L.length ≤ 4096 := by omega
        have hlt' : (j : Int) < (ks.length : Int) := by omega
        have hj0 : (0 : Int) ≤ (j : Int) := by omega
        have hbr : b < wr.heap.size := by omega
        have hbr' : b' < wr.heap.size := by omega
        clear hs hs' hL htl hI
        go_wp2_with (at_builtin; refine op_bnh rfl (.tmp 57) (.tmp 64) _ wr w2.heap.size hws (by (repeat' (first | with_reducible exact Below.refl _ _ | with_reducible assumption | with_reducible apply Below.setCell | with_reducible apply Below.alloc | with_reducible apply Below.drew | with_reducible apply below_drewN | with_reducible exact Nat.le_refl _ | (simp; done) | (simp; omega) | omega | exact Nat.le_refl _))) _ L (tb1 k x) _ rfl rfl _ (by first | (simp; done) | (simp; omega)) rfl rfl hO.out (by omega) ?_)
        intro g3 c3 w3 hO3 hBar3
        have hO3' := Lib.hid hO3
        have hB3 := Lib.hid (hbw.out.trans (hBar3.below hws fun k hk => (own_lt hO.out k hk).1))
        clear hO3 hBar3
        go_wp2_with fail
        go_roundw
        case rel => exact ⟨j + 1, by omega, by go_num, Lib.hid ⟨hB3.out, by rw [hsu.out]; exact hO3'.out⟩⟩
        case measure => simp [intOf]; omega
      · obtain rfl : j = ks.length := by omega
        have hW3 := Lib.hid (hW2.out.below hbw.out)
        obtain ⟨x0, x1, x2, x3, x4, x5, x6⟩ := hW3.out
        rename World => w3
        clear hI
        go_wp2_with fail
        clear x0 x1 x2 x3 x4 x5 x6
        go_loopw [8, 70] (fun bv i wr => ∃ j : Nat, j ≤ ms.length ∧ i = .int .i64 j ∧ Hid (Below w2.heap.size w2 wr ∧ OwnB w2.heap.size wr bv (tbA ks xs ks.length ++ tbB ms rs j))) (fun _ i _ => ms.length - (intOf i).toNat)
        case atStart => exact ⟨0, by omega, rfl, Lib.hid ⟨hbw.out, by rw [show tbB ms rs 0 = [] from rfl, List.append_nil]; exact hO.out⟩⟩
        case round =>
          clear hO
          obtain ⟨j, hj, rfl, hI⟩ := hrel
          have hbx := hI.out.1
          have hO := Lib.hid hI.out.2
          have hww := Lib.hid (hW2.out.2.2.2.2.2.2.trans (hbx.mono (by have := hW2.out.1; omega)))
          have hws := hbx.size
          have hbx := Lib.hid hbx
          obtain ⟨va, vn, vc, hve⟩ := ownB_sl hO.out
          subst hve
          by_cases hlt : j < ms.length
          · obtain ⟨b, off, rfl, hs, hb⟩ := isArg_at h2.out.2 hlt
            obtain ⟨b', off', rfl, hs', hb'⟩ := rwArg_at h5.out (show j < rs.length by have := hle2.out; omega)
            have hc := hs.below hww.out hb j hlt
            obtain ⟨r0, r1, r2, r3, r4⟩ := hs' j (by have := hle2.out; omega)
            have r0 := carry hww.out hb' r0; have r1 := carry hww.out hb' r1; have r2 := carry hww.out hb' r2; have r3 := carry hww.out hb' r3; have r4 := carry hww.out hb' r4
            have hsu := Lib.hid (tbB_succ ms rs j)
            have htl : (tbA ks xs ks.length ++ tbB ms rs j).length ≤ 9000 := by rw [List.length_append, tbA_len, tbB_len]; omega
            generalize ms.getD j 0 = k at hc hsu
            generalize rs.getD j rw0 = r at r0 r1 r2 r3 r4 hsu
            obtain ⟨L, hL⟩ : ∃ L, tbA ks xs ks.length ++ tbB ms rs j = L := ⟨_, rfl⟩
            have hsu2 : Hid (tbA ks xs ks.length ++ tbB ms rs (j + 1) = L ++ [tb2 k r]) := Lib.hid (by rw [hsu.out, ← hL, List.append_assoc])
            rw [hL] at hO htl
            have hlt' : (j : Int) < (ms.length : Int) := by omega
            have hj0 : (0 : Int) ≤ (j : Int) := by omega
            have hbr : b < wr.heap.size := by omega
            have hbr' : b' < wr.heap.size := by omega
            clear hs hs' hL hI
            go_wp2_with (at_builtin; refine op_bnh rfl (.tmp 75) (.tmp 82) _ wr w2.heap.size hws (by (repeat' (first | with_reducible exact Below.refl _ _ | with_reducible assumption | with_reducible apply Below.setCell | with_reducible apply Below.alloc | with_reducible apply Below.drew | with_reducible apply below_drewN | with_reducible exact Nat.le_refl _ | (simp; done) | (simp; omega) | omega | exact Nat.le_refl _))) _ L (tb2 k r) _ rfl rfl _ (by first | (simp; done) | (simp; omega)) rfl rfl hO.out (by omega) ?_)
            intro g3 c3 w3 hO3 hBar3
            have hO3' := Lib.hid hO3
            have hB3 := Lib.hid (hbx.out.trans (hBar3.below hws fun k hk => (own_lt hO.out k hk).1))
            clear hO3 hBar3
            go_wp2_with fail
            go_roundw
            case rel => exact ⟨j + 1, by omega, by go_num, Lib.hid ⟨hB3.out, by rw [hsu2.out]; exact hO3'.out⟩⟩
            case measure => simp [intOf]; omega
          · obtain rfl : j = ms.length := by omega
            have hW4 := Lib.hid (hW2.out.below hbx.out)
            rename World => w4
            have hBs := Lib.hid (show BnArg w4 va vn (tkB ks xs ms rs) from OwnB.arg hO.out fun y hy => by
              have := tk_ok (a2 := a5) (n2 := ms.length) h4.out hle1.out.symm y hy
              exact ⟨this.1.below hww.out, this.2⟩)
            have hvn : vn ≤ 9000 := by
              have h1 := hBs.out.1
              unfold tkB at h1
              rw [List.length_append, tbA_len, tbB_len] at h1
              omega
            have kS := Lib.hid (subType_any va a3 vn vc n3 c3 (tkB ks xs ms rs) ts w4 hBs (Lib.hid (h3.out.below hww.out)) (by omega) hl3)
            have hnil := Lib.hid (fun h => subE_nil (xs := tkB ks xs ms rs) (ts := ts) h)
            have hfin := Lib.hid fun (W : World) (hW : Below w.heap.size w W) => (show ((∃ v, subE (tkB ks xs ms rs) ts = 0 ∧ OwnT w.heap.size W v (subT (tkB ks xs ms rs) ts)) ∨ True) from .inr trivial)
            have hpost : Hid (∀ W e, Below w.heap.size w W → (if subE (tkB ks xs ms rs) ts = 0 then ∃ v, e = .returned (.tuple #[.agg #[v], .nilIface]) ∧ OwnT w.heap.size W v (subT (tkB ks xs ms rs) ts) else ∃ r, e = .returned (.tuple #[.agg #[.slice none 0 0], r]) ∧ TkRef W r 900) → TakePost ks xs ms rs ts w e W) := Lib.hid fun W e hW hh => ⟨hW, by rw [hok.out, if_pos rfl]; exact hh⟩
            unfold SubPost at kS
            obtain ⟨E, hE⟩ : ∃ E, subE (tkB ks xs ms rs) ts = E := ⟨_, rfl⟩
            obtain ⟨S, hS⟩ : ∃ E, subT (tkB ks xs ms rs) ts = E := ⟨_, rfl⟩
            rw [hE] at kS hnil hpost
            rw [hS] at kS hnil hpost
            obtain ⟨x0, x1, x2, x3, x4, x5, x6⟩ := hW4.out
            clear hI hO hBs hE hS hfin
            go_wp2_with fail
            clear x0 x1 x2 x3 x4 x5 x6
            refine kS.out.mono ?_
            rintro e w5 ⟨v5, rfl, hv5, hb5⟩
            have hW5 := Lib.hid (hW4.out.below hb5)
            have hv5' := Lib.hid hv5
            obtain ⟨ya, yn, yc, hye⟩ := ownT_sl hv5
            subst hye
            have hs5 := hb5.size
            have hw4 := hW4.out.1
            clear hb5 hv5
            obtain ⟨x0, x1, x2, x3, x4, x5, x6⟩ := hW5.out
            by_cases hz : E = 0
            · have hpo := Lib.hid fun W e hW hh => hpost.out W e hW (by rw [if_pos hz]; exact hh)
              subst hz
              clear hnil
              go_wp2_with fail
              exact bodyPost_ret (v := .tuple #[.agg #[.slice ya yn yc], .nilIface]) (by simp [results, Try.results61, go_sem, x4, x0]) rfl (hpo.out _ _ (by (repeat' (first | with_reducible exact Below.refl _ _ | with_reducible assumption | with_reducible apply Below.setCell | with_reducible apply Below.alloc | with_reducible apply Below.drew | with_reducible apply below_drewN | with_reducible exact Nat.le_refl _ | (simp; done) | (simp; omega) | omega | exact Nat.le_refl _))) ⟨_, rfl, by first | exact ownT_le (OwnT.below (ownT_put hv5'.out (show w.heap.size + 1 < w4.heap.size by omega)) (below_alc _ _)) (show w.heap.size ≤ w4.heap.size by omega) | exact ownT_le (ownT_put (hv5'.out.below (below_alc _ _)) (show w.heap.size + 1 < w4.heap.size by omega)) (show w.heap.size ≤ w4.heap.size by omega)⟩)
            · obtain ⟨_, hE9⟩ := hnil.out hz
              subst hE9
              have hpo := Lib.hid fun W e hW hh => hpost.out W e hW (by rw [if_neg hz]; exact hh)
              clear hnil hz
              have y1 : w.heap.size + 1 < w5.heap.size + 1 := by omega
              have y2 : w.heap.size + 1 < w5.heap.size + 1 + 1 := by omega
              go_wp2_with fail
              exact bodyPost_ret (v := .tuple #[.agg #[.slice none 0 0], .iface 138 (.pointer (some ⟨w5.heap.size + 1, 0, none⟩))]) (by simp [results, Try.results61, go_sem, x4, x0, y1, y2]) rfl (hpo.out _ _ (by (repeat' (first | with_reducible exact Below.refl _ _ | with_reducible assumption | with_reducible apply Below.setCell | with_reducible apply Below.alloc | with_reducible apply Below.drew | with_reducible apply below_drewN | with_reducible exact Nat.le_refl _ | (simp; done) | (simp; omega) | omega | exact Nat.le_refl _))) ⟨_, rfl, by first | exact tkRef_mk3 x0 | exact tkRef_mk4 x0⟩)
  · have hbad := Lib.hid fun (W : World) (r : Value) hW hr => tk_bad (w := w) (W := W) (ks := ks) (ms := ms) (xs := xs) (rs := rs) (ts := ts) (r := r) (tkOk_len hlen) hW hr
    have hne : n4 = n1 → ¬ n5 = n2 := fun e e2 => hlen ⟨by have := hn1.out; have := hn4.out; omega, by have := hn2.out; have := hn5.out; omega⟩
    clear hd1 hd2 hlen hkl hml
    go_enter Try.func61, Try.ntmps61
    go_wp2_with fail
    refine (kD1.out _ (below_alc2 w _ _)).mono ?_
    rintro e w1 ⟨rfl, hb1⟩
    have hW1 := Lib.hid (hW0.out.below hb1)
    clear hb1
    obtain ⟨x0, x1, x2, x3, x4, x5, x6⟩ := hW1.out
    go_wp2_with fail
    refine (kD2.out _ x6).mono ?_
    rintro e w2 ⟨rfl, hb2⟩
    have hW2 := Lib.hid (hW1.out.below hb2)
    clear hb2 x0 x1 x2 x3 x4 x5 x6
    obtain ⟨x0, x1, x2, x3, x4, x5, x6⟩ := hW2.out
    by_cases he : n4 = n1
    · have he2 := hne he
      subst he
      have q1 : ((n5 : Int) == (n2 : Int)) = false := beq_eq_false_iff_ne.2 (by omega)
      have q2 : ((n5 : Int) != (n2 : Int)) = true := by simpa using q1
      have q3 : (n5 == n2) = false := beq_eq_false_iff_ne.2 he2
      clear hne he2
      go_wp2_with fail
      exact bodyPost_ret (v := .tuple #[.agg #[.slice none 0 0], .iface 138 (.pointer (some ⟨w2.heap.size, 0, none⟩))]) (by simp [results, Try.results61, go_sem, x4, x0]) rfl (hbad.out _ _ (by (repeat' (first | with_reducible exact Below.refl _ _ | with_reducible assumption | with_reducible apply Below.setCell | with_reducible apply Below.alloc | with_reducible apply Below.drew | with_reducible apply below_drewN | with_reducible exact Nat.le_refl _ | (simp; done) | (simp; omega) | omega | exact Nat.le_refl _))) (by first | exact tkRef_mk x0 | exact tkRef_mk2 x0))
    · have q1 : ((n4 : Int) == (n1 : Int)) = false := beq_eq_false_iff_ne.2 (by omega)
      have q2 : ((n4 : Int) != (n1 : Int)) = true := by simpa using q1
      have q3 : (n4 == n1) = false := beq_eq_false_iff_ne.2 he
      clear hne he
      go_wp2_with fail
      exact bodyPost_ret (v := .tuple #[.agg #[.slice none 0 0], .iface 138 (.pointer (some ⟨w2.heap.size, 0, none⟩))]) (by simp [results, Try.results61, go_sem, x4, x0]) rfl (hbad.out _ _ (by (repeat' (first | with_reducible exact Below.refl _ _ | with_reducible assumption | with_reducible apply Below.setCell | with_reducible apply Below.alloc | with_reducible apply Below.drew | with_reducible apply below_drewN | with_reducible exact Nat.le_refl _ | (simp; done) | (simp; omega) | omega | exact Nat.le_refl _))) (by first | exact tkRef_mk x0 | exact tkRef_mk2 x0))
end Go.Proofs.Ytjhmdobmbajcgaa
