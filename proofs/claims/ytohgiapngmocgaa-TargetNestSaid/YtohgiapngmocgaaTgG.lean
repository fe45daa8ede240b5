/- target.Names. -/
import Derived.Test.YtohgiapngmocgaaTgF
namespace Go.Proofs.Ytohgiapngmocgaa
open Go.RowKit
set_option linter.unusedVariables false

def mxL (m : Int) (l : List Int) : Int := l.foldl (fun m x => if m < x + 1 then x + 1 else m) m
def mxT (m : Int) (ts : List Tg) : Int := ts.foldl (fun m t => mxL m (namesT t.k t.n t.x t.y t.z t.w)) m
theorem mxL_snoc (m : Int) (l : List Int) (j : Nat) (h : j < l.length) : mxL m (l.take (j + 1)) = (if mxL m (l.take j) < l.getD j 0 + 1 then l.getD j 0 + 1 else mxL m (l.take j)) := by
  unfold mxL
  rw [List.take_succ_eq_append_getElem h, List.foldl_append]
  simp [h]
theorem mxT_snoc (m : Int) (ts : List Tg) (j : Nat) (h : j < ts.length) : mxT m (ts.take (j + 1)) = mxL (mxT m (ts.take j)) (namesT (ts.getD j tg0).k (ts.getD j tg0).n (ts.getD j tg0).x (ts.getD j tg0).y (ts.getD j tg0).z (ts.getD j tg0).w) := by
  unfold mxT
  rw [List.take_succ_eq_append_getElem h, List.foldl_append]
  simp [h]
def namV (ts : List Tg) : Int := if mayV ts then mxT 0 ts else 0
def namE (ts : List Tg) : Int := if mayV ts then 0 else 1900

set_option maxHeartbeats 1000000 in
theorem Names_nil (p : Option Addr) (c : Nat) (w : World) :
    Calls Try.prog 7 #[.slice p 0 c] w fun e w' => e = .returned (.tuple #[.int .i64 0, .int .i64 1900]) ∧ Below w.heap.size w w' := by
  go_enter Try.func7, Try.ntmps7
  go_wp2_with fail
  refine (may_nil _ _ _).mono ?_
  rintro e w1 ⟨rfl, hb1⟩
  go_wp2_with fail
  go_ret2
  exact ⟨rfl, hb1⟩

theorem okNames_at (t : Tg) (h : okT t = true) (x : Int) (hx : x ∈ namesT t.k t.n t.x t.y t.z t.w) : 0 ≤ x ∧ x < 8192 := by
  unfold okT at h
  simp only [Bool.and_eq_true] at h
  have := h.2
  unfold okNames at this
  rw [List.all_eq_true] at this
  exact of_decide_eq_true (this x hx)

set_option maxHeartbeats 1000000 in
theorem Names_any (b off cp : Nat) (ts : List Tg) (w : World) (h : Hid (TgSl w b off ts)) (hbs : b < w.heap.size) (hl : ts.length ≤ 140737488351232) :
    Calls Try.prog 7 #[.slice (some ⟨b, off, none⟩) ts.length cp] w fun e w' => e = .returned (.tuple #[.int .i64 (namV ts), .int .i64 (namE ts)]) ∧ Below w.heap.size w w' := by
  go_enter Try.func7, Try.ntmps7
  go_wp2_with fail
  refine (may_any b off cp ts _ h hbs hl).mono ?_
  rintro e w1 ⟨rfl, hb1⟩
  cases hm : mayV ts
  · have hv : Hid (namV ts = 0 ∧ namE ts = 1900) := Lib.hid (by unfold namV namE; rw [hm]; exact ⟨rfl, rfl⟩)
    clear hm
    go_wp2_with fail
    go_ret2
    exact ⟨ret_ii hv.out.1.symm hv.out.2.symm, hb1⟩
  · have hv : Hid (namV ts = mxT 0 ts ∧ namE ts = 0) := Lib.hid (by unfold namV namE; rw [hm]; exact ⟨rfl, rfl⟩)
    have hall : Hid (∀ j, j < ts.length → okT (ts.getD j tg0) = true) := Lib.hid (by
      intro j hj
      unfold mayV at hm
      simp only [Bool.and_eq_true] at hm
      have := hm.1.2
      rw [List.all_eq_true] at this
      exact this _ (by simp [hj]))
    clear hm
    go_wp2_with fail
    go_loopw [4, 14] (fun mo i wr => ∃ j : Nat, j ≤ ts.length ∧ i = .int .i64 j ∧ Below w.heap.size w wr ∧ mo = .int .i64 (mxT 0 (ts.take j)) ∧ 0 ≤ mxT 0 (ts.take j) ∧ mxT 0 (ts.take j) ≤ 8192) (fun _ i _ => ts.length - (intOf i).toNat)
    case atStart => exact ⟨0, by omega, rfl, hb1, rfl, by simp [mxT], by simp [mxT]⟩
    case round =>
      obtain ⟨j, hj, rfl, hbw, rfl, hm0, hm1⟩ := hrel
      by_cases hlt : j < ts.length
      · have hT := (h.out j hlt).below hbw hbs
        have hmx := Lib.hid (mxT_snoc 0 ts j hlt)
        have hok := Lib.hid (okNames_at (ts.getD j tg0) (hall.out j hlt))
        generalize ts.getD j tg0 = t at hT hmx hok
        generalize mxT 0 (ts.take j) = m0 at hm0 hm1 hmx ⊢
        obtain ⟨e0, e1, e2, e3, e4, e5, e6, e7, e8⟩ := hT
        have hbr : b < wr.heap.size := by have := hbw.size; omega
        go_wp2_with fail
        refine (names_any _ _ _ _ _ _ _ _ _ _).mono ?_
        rintro e w2 ⟨v, rfl, hvv, hb2⟩
        obtain ⟨l, hle⟩ : ∃ l, namesT t.k t.n t.x t.y t.z t.w = l := ⟨_, rfl⟩
        have hlen : l.length ≤ 4 := by rw [← hle]; unfold namesT; (repeat' split) <;> simp
        rw [hle] at hvv hmx hok
        clear hle
        have hbw2 := belT hbw (belT (by (repeat (first | exact Below.refl _ _ | refine Below.alloc ?_ (by first | exact Nat.le_refl _ | (simp; done) | (simp; omega)) _ | refine Below.drew ?_ | refine below_drewN ?_ _ | refine Below.setCell ?_ (by first | exact Nat.le_refl _ | (simp; done) | (simp; omega)) _))) hb2)
        rcases hvv with ⟨rfl, rfl⟩ | ⟨g, cp', hg, hgs, rfl, hcell⟩
        · go_wp2_with fail
          go_loop [4, 21] (fun mo i => mo = .int .i64 m0 ∧ i = .int .i64 0) (fun _ _ => 0)
          case atStart => exact ⟨rfl, rfl⟩
          case round =>
            obtain ⟨rfl, rfl⟩ := hrel
            go_wp2_with fail
            go_round
            case rel => exact ⟨j + 1, by omega, by go_num, hbw2, by rw [hmx.out]; rfl, by rw [hmx.out]; exact hm0, by rw [hmx.out]; exact hm1⟩
            case measure => simp [intOf]; omega
        · have hc := Lib.hid hcell; clear hcell
          go_wp2_with fail
          go_loop [4, 21] (fun mo i => ∃ q : Nat, q ≤ l.length ∧ i = .int .i64 q ∧ mo = .int .i64 (mxL m0 (l.take q)) ∧ 0 ≤ mxL m0 (l.take q) ∧ mxL m0 (l.take q) ≤ 8192) (fun _ i => l.length - (intOf i).toNat)
          case atStart => exact ⟨0, by omega, rfl, rfl, hm0, hm1⟩
          case round =>
            obtain ⟨q, hq, rfl, rfl, hm2, hm3⟩ := hrel
            by_cases hlq : q < l.length
            · have hcq := hc.out q hlq
              have hsn := Lib.hid (mxL_snoc m0 l q hlq)
              have hxb := hok.out (l.getD q 0) (by simp [hlq])
              generalize l.getD q 0 = x at hcq hsn hxb
              generalize mxL m0 (l.take q) = m2 at hm2 hm3 hsn ⊢
              go_wp2_with fail
              go_round
              case rel => exact ⟨q + 1, by omega, by go_num, by rw [hsn.out], by rw [hsn.out]; split <;> omega, by rw [hsn.out]; split <;> omega⟩
              case measure => simp [intOf]; omega
            · have hend : Hid (mxT 0 (ts.take (j + 1)) = mxL m0 (l.take q)) := Lib.hid (by rw [hmx.out, List.take_of_length_le (by omega)])
              go_wp2_with fail
              go_round
              case rel => exact ⟨j + 1, by omega, by go_num, hbw2, by rw [hend.out], by rw [hend.out]; exact hm2, by rw [hend.out]; exact hm3⟩
              case measure => simp [intOf]; omega
      · go_wp2_with fail
        go_ret2
        exact ⟨ret_ii (by rw [hv.out.1, List.take_of_length_le (by omega)]) hv.out.2.symm, hbw⟩
end Go.Proofs.Ytohgiapngmocgaa
