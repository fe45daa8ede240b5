/- Contract of package lex: scan. -/
import Derived.Test.YtfajbkpeioejoaaDoorLxE
namespace Go.Proofs.YtfajbkpeioejoaaDoor
open Go.RowKit
set_option linter.unusedVariables false
set_option linter.unusedSimpArgs false

theorem infoK : (Tryd.prog.info? 101).map (fun i => (i.zero, i.size, i.bytes)) = some (some (.agg #[.int .i64 0, .string ByteArray.empty, .int .i64 0, .int .i64 0]), 4, 40) := by kernel_rfl
def tk4 (t : Tk) : List Value := [.int .i64 t.kind, .string (bs t.text), .int .i64 t.num, .int .i64 t.at_]
def tkL (l : List Tk) : List Value := l.flatMap tk4
theorem tkL_len (l : List Tk) : (tkL l).length = l.length * 4 := by
  induction l with
  | nil => rfl
  | cons t l ih => simp only [tkL, List.flatMap_cons, List.length_append, List.length_cons] at *; rw [ih]; simp [tk4]; omega
theorem tkL_snoc (l : List Tk) (t : Tk) : tkL (l ++ [t]) = tkL l ++ tk4 t := by simp [tkL]
def OwnK (B : Nat) (w : World) (v : Value) (l : List Tk) : Prop := w.ownsRow B 101 4 v l.length (tkL l)
theorem ownK_nil (B : Nat) (w : World) : OwnK B w (.slice none 0 0) [] := ⟨rfl, .inl ⟨rfl, rfl⟩⟩
theorem owns_below {w w1 : World} {base : Nat} {e : TypeId} {size : Nat} {v : Value} {n : Nat} {xs : List Value} (h : w.ownsRow base e size v n xs) (hb : Below w.heap.size w w1) : w1.ownsRow base e size v n xs := by
  refine ⟨h.1, ?_⟩
  rcases h.2 with h | ⟨g, cap, cur, h1, h2, h3, h4⟩
  · exact .inl h
  · refine .inr ⟨g, cap, cur, h1, h2, ?_, h4⟩
    have hg : g < w.heap.size := by
      rcases Nat.lt_or_ge g w.heap.size with h | h
      · exact h
      · rw [Array.getElem?_eq_none h] at h3; cases h3
    rw [hb.block g hg]; exact h3
theorem ownK_below {B : Nat} {w w1 : World} {v : Value} {l : List Tk} (h : OwnK B w v l) (hb : Below w.heap.size w w1) : OwnK B w1 v l := owns_below h hb
/-- one more token behind those that there are. -/
theorem op_tk {ops : Array Oper} {rest : List Oper} {o : Oper} {a : Act} {Q : Exit → Act → World → Prop} (hgd : o.guard = none) (s x : Operand) (W : World) (B : Nat) (hB : B ≤ W.heap.size) (ov : Value) (l : List Tk) (y : Tk)
    (ho : o.op = .call { callee := .builtin .append, args := #[s, x], argTypes := #[97, 97] })
    (hs : a.eval s = ov) (hx : a.eval x = .slice (some ⟨W.heap.size, 0, none⟩) 1 1) (hown : OwnK B W ov l) (hlen : l.length ≤ 5000)
    (h : ∀ v' w', OwnK B w' v' (l ++ [y]) → Below B W w' → wpList Tryd.prog ops Q rest (a.put o.dst v') w') :
    wpList Tryd.prog ops Q (o :: rest) a (W.alloc (.cells #[.int .i64 y.kind, .string (bs y.text), .int .i64 y.num, .int .i64 y.at_] 101)) := by
  obtain ⟨i0, hi, hz0, hz1, hz2⟩ := info_parts infoK
  refine wpList_append_own _ hgd s x 97 ho B 101 i0 (.agg #[.int .i64 0, .string ByteArray.empty, .int .i64 0, .int .i64 0]) 4 40 Tryd.underlying97 hi hz0 hz1 hz2 rfl (by decide) ov l.length (tkL l) hs (World.ownsRow.alloc hown _) ⟨W.heap.size, 0, none⟩ 1 1 (tk4 y) hx rfl ?_ ?_ (by unfold maxLen; omega) (by omega) (by simp; omega) ?_
  · intro j u hj
    match j, hj with
    | 0, hj => simp [tk4] at hj; subst hj; show (W.alloc _).cell? ⟨W.heap.size, 0, none⟩ = _; simp
    | 1, hj => simp [tk4] at hj; subst hj; show (W.alloc _).cell? ⟨W.heap.size, 1, none⟩ = _; simp
    | 2, hj => simp [tk4] at hj; subst hj; show (W.alloc _).cell? ⟨W.heap.size, 2, none⟩ = _; simp
    | 3, hj => simp [tk4] at hj; subst hj; show (W.alloc _).cell? ⟨W.heap.size, 3, none⟩ = _; simp
    | j + 4, hj => simp [tk4] at hj
  · intro u hu; simp [tk4] at hu; rcases hu with rfl | rfl | rfl | rfl <;> rfl
  · intro v' w' hown' hgr _
    refine h v' w' (by unfold OwnK; rw [tkL_snoc, List.length_append]; exact hown') ?_
    have hsz := hgr.size
    simp at hsz
    refine ⟨hgr.os, hgr.tape, hgr.output, by omega, fun k hk => ?_⟩
    rw [hgr.block k (by simp; omega) ?_]
    · exact Below.heap_alloc W _ k (by omega)
    · intro e
      rcases hown.2 with ⟨rfl, _⟩ | ⟨g, cap, cur, rfl, hg, _⟩
      · simp [Value.ownBlock] at e
      · simp [Value.ownBlock] at e; omega

/-- what lex.Tokens tells: the tokens, a place, an error's number. -/
def lexR (s : ByteArray) : List Tk × Int × Int := if 4096 < s.size then ([], 0, 200) else if (vaV s).2 = false then ([], (vaV s).1, 200) else lxAt s.data.toList 0 []
/-- what scan leaves. -/
def ScanPost (R : List Tk × Int × Int) (w : World) (e : Ending) (w' : World) : Prop :=
  Below w.heap.size w w' ∧
  ((R.2.2 = 0 ∧ R.2.1 = 0 ∧ ∃ v, e = .returned (.tuple #[v, .nilIface]) ∧ OwnK w.heap.size w' v R.1) ∨
   (R.1 = [] ∧ R.2.2 ≠ 0 ∧ ∃ g, w.heap.size ≤ g ∧ g < w'.heap.size ∧ e = .returned (.tuple #[.slice none 0 0, .iface 120 (.pointer (some ⟨g, 0, none⟩))]) ∧
      w'.cell? ⟨g, 0, none⟩ = some (.int .i64 R.2.1) ∧ w'.cell? ⟨g, 1, none⟩ = some (.iface 27 (.int .i64 R.2.2))))
theorem scan_bad {w W : World} {at_ er : Int} {R : List Tk × Int × Int} (hR : R = ([], at_, er)) (he : er ≠ 0) (hb : Below w.heap.size w W) (T : TypeId) {g : Nat} (hg : g = W.heap.size := by first | rfl | simp) :
    ScanPost R w (.returned (.tuple #[.slice none 0 0, .iface 120 (.pointer (some ⟨g, 0, none⟩))])) (W.alloc (.cells #[.int .i64 at_, .iface 27 (.int .i64 er)] T)) := by
  subst hR
  subst hg
  exact ⟨hb.alloc hb.size _, .inr ⟨rfl, he, W.heap.size, hb.size, by simp, rfl, by simp, by simp⟩⟩
theorem scan_ok {w W : World} {v : Value} {l : List Tk} {R : List Tk × Int × Int} (hR : R = (l, 0, 0)) (hb : Below w.heap.size w W) (ho : OwnK w.heap.size W v l) : ScanPost R w (.returned (.tuple #[v, .nilIface])) W := by
  subst hR
  exact ⟨hb, .inl ⟨rfl, rfl, v, rfl, ho⟩⟩

set_option maxRecDepth 100000 in
set_option maxHeartbeats 8000000 in
theorem scan_any (s : ByteArray) (w : World) (hs : s.size ≤ 1125899906842624) :
    Calls Tryd.prog 49 #[.string s] w (ScanPost (lexR s) w) := by
  by_cases hl : 4096 < s.size
  · have hR := Lib.hid (show lexR s = ([], 0, 200) by unfold lexR; rw [if_pos hl])
    go_enter Tryd.func49, Tryd.ntmps49
    go_wp2_with fail
    go_ret2
    exact scan_bad hR.out (by decide) (Below.refl _ _) _
  have hl' : s.size ≤ 4096 := by omega
  cases hv : (vaV s).2
  · have hR := Lib.hid (show lexR s = ([], (vaV s).1, 200) by unfold lexR; rw [if_neg hl, if_pos hv])
    have hv' := Lib.hid hv; clear hv
    obtain ⟨vp, hvp⟩ : ∃ x, (vaV s).1 = x := ⟨_, rfl⟩
    have hvp' := Lib.hid hvp; clear hvp
    go_enter Tryd.func49, Tryd.ntmps49
    go_wp2_with fail
    refine (valid_any _ _ hs).mono ?_
    rintro e w' ⟨rfl, rfl⟩
    rw [hv'.out, hvp'.out]
    go_wp2_with fail
    go_ret2
    exact scan_bad (by rw [hR.out, hvp'.out]) (by decide) (Below.refl _ _) _
  have hR : Hid (lexR s = lxAt s.data.toList 0 []) := Lib.hid (by unfold lexR; rw [if_neg hl, hv]; rfl)
  have hv' := Lib.hid hv; clear hv hl
  obtain ⟨vp, hvp⟩ : ∃ x, (vaV s).1 = x := ⟨_, rfl⟩
  have hvp' := Lib.hid hvp; clear hvp
  have hb0 := Lib.hid fun (W : World) => blanks_any s 0 W hs (Nat.zero_le _)
  have hsk := skipF_le s.data.toList false
  rw [len_list] at hsk
  go_enter Tryd.func49, Tryd.ntmps49
  go_wp2_with fail
  refine (valid_any _ _ hs).mono ?_
  rintro e w' ⟨rfl, rfl⟩
  rw [hv'.out, hvp'.out]
  go_wp2_with fail
  refine (hb0.out _).mono ?_
  rintro e w' ⟨rfl, rfl⟩
  rw [List.drop_zero, Nat.zero_add]
  go_wp2_with fail
  go_loopw [6, 7] (fun tv i wr => ∃ (p : Nat) (acc : List Tk), p ≤ s.size ∧ acc.length ≤ p ∧ i = .int .i64 p ∧ Below w.heap.size w wr ∧ Hid (OwnK w.heap.size wr tv acc ∧ skipF false (s.data.toList.drop p) = 0 ∧ lxAt (s.data.toList.drop p) p acc = lxAt s.data.toList 0 [])) (fun _ i _ => s.size - (intOf i).toNat)
  case atStart => exact ⟨skipF false s.data.toList, [], by omega, by simp, rfl, Below.refl _ _, Lib.hid ⟨ownK_nil _ _, skip_idem _ _, by have := lxAt_skip s.data.toList 0 []; rw [Nat.zero_add] at this; exact this⟩⟩
  case round =>
    obtain ⟨p, acc, hp, hacc, rfl, hbw, hinv⟩ := hrel
    have hws := hbw.size
    by_cases hlt : p < s.size
    · obtain ⟨x, hx⟩ : ∃ x, s.extract p s.size = x := ⟨_, rfl⟩
      have hxl : s.data.toList.drop p = x.data.toList := by rw [← hx, ext_list, List.take_of_length_le (by simp)]
      have hxs : x.size = s.size - p := by rw [← hx]; simp
      have hne : x.data.toList ≠ [] := by intro h; have := congrArg List.length h; rw [len_list, hxs] at this; simp at this; omega
      obtain ⟨r, hr⟩ : ∃ r, firstF x.data.toList = r := ⟨_, rfl⟩
      obtain ⟨⟨kd, tx, nm, a0⟩, n, er⟩ := r
      have hfst : Hid (∀ W : World, Calls Tryd.prog 52 #[.string x] W fun e w' => e = .returned (.tuple #[.agg #[.int .i64 kd, .string (bs tx), .int .i64 nm, .int .i64 a0], .int .i64 n, erV er]) ∧ Below W.heap.size W w') := Lib.hid fun W =>
        (first_any x W (by omega) (by omega)).mono fun e w' h => by unfold FirstPost at h; rw [hr] at h; exact h
      have hinv' := hinv.out
      rw [hxl] at hinv'
      have hskn := hinv'.2.1
      have hinv2 := Lib.hid hinv'.2.2
      have hxl' := Lib.hid hxl; have hxs' := Lib.hid hxs
      by_cases he : er = 0
      · subst he
        have hpos := firstF_pos hne (by rw [hr])
        rw [hr] at hpos
        have hmore := Lib.hid (lxAt_more (p := p) (acc := acc) hskn hne hr)
        have hn1 : 0 < n := hpos.1
        have hn2 : p + n ≤ s.size := by have := hpos.2; rw [len_list, hxs] at this; simp at this; omega
        have hb2 := Lib.hid fun (W : World) => blanks_any s (p + n) W hs hn2
        have hsk2 := skipF_le (s.data.toList.drop (p + n)) false
        rw [List.length_drop, len_list] at hsk2
        obtain ⟨k2, hk2⟩ : ∃ k, p + n + skipF false (s.data.toList.drop (p + n)) = k := ⟨_, rfl⟩
        have hk2' := Lib.hid hk2
        have hk2s : k2 ≤ s.size := by omega
        have hk2n : p + n ≤ k2 := by omega
        clear hpos hinv' hskn hxl hxs hsk2 hk2 hne hsk hr
        go_wp2_with fail
        refine (hfst.out _).mono ?_
        rintro e w1 ⟨rfl, hb1⟩
        have hown1 : Hid (OwnK w.heap.size w1 _ acc) := Lib.hid (ownK_below hinv.out.1 hb1)
        have hB1 : Below w.heap.size w w1 := hbw.trans (hb1.mono hws)
        have hw1s := hB1.size
        clear hb1
        rw [show erV 0 = .nilIface from rfl]
        go_wp2_with (at_builtin; refine op_tk rfl (.tmp 56) (.tmp 58) (w1.alloc (.cells #[.int .i64 kd, .string (bs tx), .int .i64 nm, .int .i64 p] 101)) w.heap.size (by simp; omega) _ acc ⟨kd, tx, nm, p⟩ rfl rfl (by show Value.slice (some ⟨w1.heap.size + 1, 0, none⟩) 1 1 = _; simp) (World.ownsRow.alloc hown1.out _) (by omega) ?_; intro v' w2 hown2 hb3)
        have hB2 : Below w.heap.size w w2 := (hB1.alloc hw1s _).trans hb3
        have hown2' := Lib.hid hown2
        clear hown2 hb3 hown1 hinv
        go_wp2_with fail
        rw [show (p : Int) + (n : Int) = ((p + n : Nat) : Int) by omega]
        refine (hb2.out _).mono ?_
        rintro e w' ⟨rfl, rfl⟩
        rw [hk2'.out]
        go_wp2_with fail
        go_roundw
        case rel =>
          refine ⟨k2, acc ++ [⟨kd, tx, nm, p⟩], hk2s, by simp; omega, rfl, hB2, Lib.hid ⟨hown2'.out, ?_, ?_⟩⟩
          · rw [← hk2'.out, ← List.drop_drop]; exact skip_idem _ _
          · rw [← hinv2.out, hmore.out, ← hxl'.out, List.drop_drop, ← hk2'.out, ← List.drop_drop]; exact lxAt_skip _ _ _
        case measure => simp [intOf]; omega
      · have herr := Lib.hid (lxAt_err (p := p) (acc := acc) hskn hne hr he)
        have he2 : Hid (erV er = .iface 27 (.int .i64 er)) := Lib.hid (by unfold erV; rw [if_neg he])
        have he' := Lib.hid he
        clear hinv' hskn hxl hxs hne hsk hr he
        go_wp2_with fail
        refine (hfst.out _).mono ?_
        rintro e w1 ⟨rfl, hb1⟩
        have hB1 : Below w.heap.size w w1 := hbw.trans (hb1.mono hws)
        have hw1s := hB1.size
        clear hb1
        rw [he2.out]
        go_wp2_with fail
        go_ret2
        exact scan_bad (R := lexR s) (at_ := p) (by rw [hR.out, ← hinv2.out, herr.out]) he'.out (by (repeat' (first | with_reducible exact Below.refl _ _ | with_reducible assumption | with_reducible apply Below.setCell | with_reducible apply Below.alloc | with_reducible apply Below.drew | with_reducible apply below_drewN | with_reducible exact Nat.le_refl _ | (simp; done) | (simp; omega) | omega | exact Nat.le_refl _))) _
    · have hps : p = s.size := by omega
      have hinv' := hinv.out
      rw [drop_end s p (by omega), lxAt_nil] at hinv'
      have hinv2 := Lib.hid hinv'
      clear hinv' hps
      go_wp2_with fail
      go_ret2
      exact scan_ok (by rw [hR.out, ← hinv2.out.2.2]) hbw hinv2.out.1
end Go.Proofs.YtfajbkpeioejoaaDoor
