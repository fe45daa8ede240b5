/- The program's tidier in memory. -/
import Derived.Test.YthpcbgljbpmafaaGreatDoorU20
import Derived.Test.YthpcbgljbpmafaaGreatDoorU22
import Derived.Test.YthpcbgljbpmafaaGreatDoorU24
import Derived.Test.YthpcbgljbpmafaaGreatDoorU37
set_option maxRecDepth 100000
set_option maxHeartbeats 8000000
namespace Go.Proofs.YthpcbgljbpmafaaGreatDoor
open Go.RowKit
set_option linter.unusedVariables false
set_option linter.unusedSimpArgs false
theorem ndL_take : ∀ (l : List Nd) (j : Nat), ndL (l.take j) = (ndL l).take (j * 10)
 | [], j => by simp [ndL]
 | t :: l, 0 => by simp [ndL]
 | t :: l, j + 1 => by
  have h := ndL_take l j
  rw [List.take_succ_cons]
  have e : ∀ (t : Nd) (l : List Nd), ndL (t :: l) = ndL1 t ++ ndL l := fun t l => by simp [ndL]
  rw [e, e, h, List.take_append]
  have h1 : (ndL1 t).length = 10 := rfl
  rw [h1, List.take_of_length_le (l := ndL1 t) (by rw [h1]; omega), show (j + 1) * 10 - 10 = j * 10 by omega]
theorem OwnN.take {B : Nat} {w : World} {a : Option Addr} {n c : Nat} {l : List Nd} (h : OwnN B w (.slice a n c) l) (j : Nat) (hj : j ≤ l.length) : OwnN B w (.slice a j c) (l.take j) := by
 have hl : (l.take j).length = j := by rw [List.length_take]; omega
 refine ⟨by rw [ndL_len], ?_⟩
 rw [hl]
 rcases h.2 with ⟨h1, h0⟩ | ⟨g, cap, cur, h1, hb, hg, hc, hm, hsz, htk⟩
 ·injection h1 with h1 h2 h3
  subst h1 h2 h3
  exact .inl ⟨by rw [show j = 0 by omega], by omega⟩
 ·injection h1 with h1 h2 h3
  subst h1 h2 h3
  refine .inr ⟨g, c, cur, rfl, hb, hg, by omega, hm, hsz, ?_⟩
  rw [ndL_take, ← htk, List.take_take, Nat.min_eq_left (by omega)]
theorem OwnN.len {B : Nat} {w : World} {a : Option Addr} {n c : Nat} {l : List Nd} (h : OwnN B w (.slice a n c) l) : n = l.length ∧ n ≤ c := by
 rcases h.2 with ⟨h1, h0⟩ | ⟨g, cap, cur, h1, _, _, hc, _⟩
 ·injection h1 with h1 h2 h3; omega
 ·injection h1 with h1 h2 h3; omega
def NdI (B G : Nat) (w : World) (sv : Value) (ts : List Nd) : Prop := ∃ T off c, sv = .slice (some ⟨T, off, none⟩) ts.length c ∧ T < B ∧ T ≠ G ∧ T < w.heap.size ∧ NdSl w T off ts
theorem NdI.bar {S : Nat → Prop} {B G : Nat} {w w' : World} {sv : Value} {ts : List Nd} (h : NdI B G w sv ts) (hb : Bar S w w') (hn : ∀ k, k < B → k ≠ G → ¬ S k) : NdI B G w' sv ts := by
 obtain ⟨T, off, c, h1, h2, h3, h4, h5⟩ := h
 exact ⟨T, off, c, h1, h2, h3, by have := hb.size; omega, h5.bar hb (hn T h2 h3)⟩
structure TdW (B G : Nat) (sv : Value) (ts : List Nd) (w : World) (mv : Value) (m : List Nd) : Prop where
 cn : w.cell? ⟨G, 0, none⟩ = some sv
 cm : w.cell? ⟨G, 1, none⟩ = some mv
 gB : G < B
 bl : B ≤ w.heap.size
 fg : ∀ o, w.frozen? ⟨G, o, none⟩ = false
 ni : NdI B G w sv ts
 own : OwnN B w mv m
 ml : m.length ≤ 600
theorem TdW.bar {S : Nat → Prop} {B G : Nat} {sv : Value} {ts : List Nd} {w w' : World} {mv : Value} {m : List Nd} (h : TdW B G sv ts w mv m) (hb : Bar S w w') (hG : ¬ S G) (hB : ∀ k, k < B → k ≠ G → ¬ S k) (hn : ∀ k, mv.ownBlock = some k → ¬ S k) : TdW B G sv ts w' mv m :=
 ⟨hb.cell h.cn hG, hb.cell h.cm hG, h.gB, by have := hb.size; have := h.bl; omega, fun o => by rw [hb.frozen (a := ⟨G, o, none⟩) (by have := h.gB; have := h.bl; show G < _; omega) hG]; exact h.fg o, h.ni.bar hb hB, Bar.own hb h.own hn, h.ml⟩
theorem TdW.below {B G : Nat} {sv : Value} {ts : List Nd} {w w' : World} {mv : Value} {m : List Nd} (h : TdW B G sv ts w mv m) (hb : Below w.heap.size w w') : TdW B G sv ts w' mv m :=
 h.bar (Bar.of_below (S := fun _ => False) hb) id (fun _ _ _ => id) (fun _ _ => id)
theorem TdW.setM {B G : Nat} {sv : Value} {ts : List Nd} {w w2 : World} {mv mv' : Value} {m m' : List Nd} (h : TdW B G sv ts w mv m) (hb : Bar (fun k => mv.ownBlock = some k) w w2) (ho : OwnN B w2 mv' m') (hh : PHop mv mv' w) (hl : m'.length ≤ 600) :
  TdW B G sv ts (w2.setCell ⟨G, 1, none⟩ mv') mv' m' ∧ Stp G w mv (w2.setCell ⟨G, 1, none⟩ mv') mv' := by
 have ne : (⟨G, 1, none⟩ : Addr) ≠ ⟨G, 0, none⟩ := fun e => by injection e with _ e2 _; cases e2
 have hB := fun k hk => (own_lt h.own k hk).1
 have hGn : ¬ mv.ownBlock = some G := fun e => by have := hB G e; have := h.gB; omega
 have hb2 : Bar (fun k => k = G) w2 (w2.setCell ⟨G, 1, none⟩ mv') := Bar.set (S := fun k => k = G) ⟨G, 1, none⟩ _ rfl
 have hsz := hb.size
 refine ⟨⟨setO (hb.cell h.cn hGn) ne, setS (hb.cell h.cm hGn), h.gB, by have := h.bl; simp; omega, fun o => ?_, (h.ni.bar hb (fun k hk _ e => by have := hB k e; omega)).bar hb2 (fun k _ hk => hk), Bar.own hb2 ho (fun k hk e => by have := (own_lt ho k hk).1; have := h.gB; omega), hl⟩, ?_, ?_⟩
 ·simp only [World.frozen?_setCell]
  rw [hb.frozen (a := ⟨G, o, none⟩) (by have := h.gB; have := h.bl; show G < _; omega) hGn]; exact h.fg o
 ·exact (Bar.trans (S := PFr G mv) ((Bar.refl _ _).trans hb fun _ _ hs => .inr hs) hb2 fun _ _ hs => .inl hs)
 ·exact hh
def TdN (B G : Nat) (sv : Value) (ts : List Nd) (w : World) (mv : Value) (m : List Nd) (e : Ending) (w' : World) : Prop := e = .returned (.int .i64 (lstI m)) ∧ ∃ mv', TdW B G sv ts w' mv' m ∧ Stp G w mv w' mv'
theorem tadd_any (B G : Nat) (sv : Value) (ts : List Nd) (w : World) (mv : Value) (m : List Nd) (t : Nd) (h : Hid (TdW B G sv ts w mv m)) (hf : m.length < 600) :
  Calls Tryz.prog 38 #[.pointer (some ⟨G, 0, none⟩), .agg #[.int .i64 t.k, .int .i64 t.a, .int .i64 t.b, .int .i64 t.c, .int .i64 t.n, .string t.nm, .string t.x, .string t.y, .string t.z, .int .i64 t.p]] w (TdN B G sv ts w mv (m ++ [t])) := by
 obtain ⟨a, c, rfl⟩ := own_sl h.out.own
 have hn := h.out.cm
 have hgl : G < w.heap.size := by have := h.out.gB; have := h.out.bl; omega
 have hf := Lib.hid hf
 go_enter Tryz.func38, Tryz.ntmps38
 go_upto_region 1 with fail
 obtain ⟨W0, hW0⟩ : ∃ W, w.alloc (.cells #[.int .i64 t.k, .int .i64 t.a, .int .i64 t.b, .int .i64 t.c, .int .i64 t.n, .string t.nm, .string t.x, .string t.y, .string t.z, .int .i64 t.p] 45) = W := ⟨_, rfl⟩
 obtain ⟨⟨y0, y1, y2, y3, y4, y5, y6, y7, y8, y9⟩, hb0, hs0⟩ := nd_box w W0 t hW0
 rw [hW0]
 clear hW0 hn
 have h2 := Lib.hid (h.out.below hb0)
 have hb0 := Lib.hid hb0
 have hn := h2.out.cm
 have hfr := h2.out.fg
 have hgW : G < W0.heap.size := by omega
 have hq : Hid ((m.length + [t].length) ≤ 1000000) := Lib.hid (by have := hf.out; simp; omega)
 have hBW : B ≤ W0.heap.size := h2.out.bl
 have hnG : ¬ (Value.slice a m.length c).ownBlock = some G := fun e => by have := (own_lt h.out.own G e).1; have := h.out.gB; omega
 have hfin : Hid (∀ a2 c2 w2, OwnN B w2 (.slice a2 (m.length + 1) c2) (m ++ [t]) → Bar (fun k => (Value.slice a m.length c).ownBlock = some k) W0.drew w2 → (∀ g, (Value.slice a2 (m.length + 1) c2).ownBlock = some g → (Value.slice a m.length c).ownBlock = some g ∨ W0.drew.heap.size ≤ g) → ∀ v : Int, v = m.length → TdN B G sv ts w (.slice a m.length c) (m ++ [t]) (.returned (.int .i64 v)) (w2.setCell ⟨G, 1, none⟩ (.slice a2 (m.length + 1) c2))) := Lib.hid fun a2 c2 w2 k1 k2 k3 v hv => by
  have hd : Below W0.heap.size W0 W0.drew := (Below.refl _ _).drew
  obtain ⟨k4, k5⟩ := TdW.setM (h2.out.below hd) k2 k1 k3 (by have := hf.out; simp; omega)
  exact ⟨by rw [hv]; unfold lstI; simp, _, k4, ((Stp.below hb0.out).next hd).trans k5⟩
 have hnl : (m.length : Int) ≤ 600 := by have := hf.out; omega
 have hnl0 : (0 : Int) ≤ (m.length : Int) := by omega
 go_region_law ((refine step_ndr rfl (.tmp 9) (.tmp 11) W0.drew B (show B ≤ W0.drew.heap.size from hBW) (.slice a m.length c) m [t] _ rfl rfl 1 rfl rfl rfl (show OwnN B W0.drew (.slice a m.length c) m from h2.out.own) hq.out ?_; intro v' w2 hown2 hb2 hop2; obtain ⟨a2, c2, rfl⟩ := own_sl hown2; have hc2 : w2.cell? ⟨G, 1, none⟩ = some (.slice a m.length c) := hb2.cell hn hnG; rw [List.length_append, List.length_singleton] at hown2 hop2; have hown2 := Lib.hid hown2; have hb2' := Lib.hid hb2; have hop2 := Lib.hid hop2; have hgw2 : G < w2.heap.size := Nat.lt_of_lt_of_le hgW hb2.size; have hf2 : w2.frozen? ⟨G, 1, none⟩ = false := (hb2.frozen (a := ⟨G, 1, none⟩) hgW hnG).trans (hfr 1)))
 all_goals
  clear hb2 hn hfr hgW y0 y1 y2 y3 y4 y5 y6 y7 y8 y9
  go_wp2_with fail
  go_ret
  exact hfin.out _ _ _ hown2.out hb2'.out hop2.out _ (by omega)
end Go.Proofs.YthpcbgljbpmafaaGreatDoor
