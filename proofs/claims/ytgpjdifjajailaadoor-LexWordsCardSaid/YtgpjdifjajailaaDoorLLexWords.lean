/- LexWords holds for every number and text. No condition but that the listed package variable holds what the program's text lays. -/
import Derived.Test.YtgpjdifjajailaaDoorLxV
import Derived.Test.YtgpjdifjajailaaDoorAid
import Derived.Test.YtgpjdifjajailaaDoorCards
import Derived.Test.YtgpjdifjajailaaDoorTie
import Derived.Test.YtgpjdifjajailaaDoorOpn
import Derived.Test.YtgpjdifjajailaaDoorHan
import Derived.WalkKit
import Derived.ProofKit
import Derived.Deep.DeepHandedRow
namespace Go.Proofs.YtgpjdifjajailaaDoor.lexWords
open Go.ChangeShapes Go.WideShapes Go.ChangeAt Go.RowKit
open Go.ChangeMaps (open_string shut_string)
set_option linter.unusedVariables false
set_option linter.unusedSimpArgs false

theorem tabs {W : World} (h : laidMetH Tryd.prog Rows.lexWordsRow.laid W) : Hid (errTy W) := Lib.hid (errTy_of h (.head _))
/-- what holds of each keyword. -/
def good (k : List UInt8) : Bool := decide (lexR (bs k) = ([⟨2, k, 0, 0⟩], 0, 0)) && decide (lexR (bs (k ++ [95])) = ([⟨0, k ++ [95], 0, 0⟩], 0, 0)) && kwB k && !kwB (k ++ [120]) && (!kwB (k.take (k.length - 1)) || k == [105, 110, 116]) && decide (2 ≤ k.length)
theorem good_all : ∀ m < 17, good (kwL.getD m []) = true := by decide +kernel
theorem kw_no : ∀ k ∈ kwL, k.all isL = true := by decide +kernel
theorem kw_blank (l : List UInt8) (h : (32 : UInt8) ∈ l) : kwB l = false := by
  cases hk : kwB l
  · rfl
  · have := kw_no l (by unfold kwB at hk; exact List.contains_iff_mem.1 hk)
    rw [List.all_eq_true] at this
    have := this 32 h
    exact absurd this (by decide)
structure Facts (x : ByteArray) : Prop where
  a : lexR x = ([⟨2, x.data.toList, 0, 0⟩], 0, 0)
  b : lexR (x ++ ⟨#[95]⟩) = ([⟨0, (x ++ ⟨#[95]⟩ : ByteArray).data.toList, 0, 0⟩], 0, 0)
  c : kwB x.data.toList = true
  d : kwB (x ++ ⟨#[120]⟩ : ByteArray).data.toList = false
  e : (kwB (x.extract 0 (x.size - 1)).data.toList = false) ∨ (x.toList == [105, 110, 116]) = true
  f : 2 ≤ x.size
  g : x.size ≤ 100
theorem len_all : ∀ m < 17, (kwL.getD m []).length ≤ 100 := by decide
theorem app_list (x : ByteArray) (c : UInt8) : (x ++ ⟨#[c]⟩ : ByteArray).data.toList = x.data.toList ++ [c] := by simp
theorem facts (m : Nat) (hm : m < 17) : Facts (bs (kwL.getD m [])) := by
  have h := good_all m hm
  have hl := len_all m hm
  generalize kwL.getD m [] = k at h hl
  unfold good at h
  simp only [Bool.and_eq_true, decide_eq_true_eq, Bool.not_eq_true', Bool.or_eq_true] at h
  obtain ⟨⟨⟨⟨⟨h1, h2⟩, h3⟩, h4⟩, h5⟩, h6⟩ := h
  have ha : ∀ c : UInt8, (bs k ++ ⟨#[c]⟩ : ByteArray) = bs (k ++ [c]) := fun c => ba_ext (by rw [app_list]; rfl)
  refine ⟨h1, by rw [ha]; exact h2, h3, by rw [ha]; exact h4, ?_, h6, hl⟩
  rcases h5 with h5 | h5
  · left; rw [ext_list, List.drop_zero, Nat.sub_zero]; exact h5
  · right; rw [ByteArray.toList_eq]; exact h5

set_option maxRecDepth 100000 in
set_option maxHeartbeats 4000000 in
theorem walk (a0 : Int) (t : ByteArray) (w : World) (b0 : -9223372036854775808 ≤ a0 ∧ a0 ≤ 9223372036854775807) (ht : t.size ≤ 140737488351232) (hg : Hid (errTy w)) :
    Calls Tryd.prog 6 #[.int .i64 a0, .string t] w fun e w' => e = .returned (.bool true) ∧ Below w.heap.size w w' := by
  obtain ⟨mi, hm0, hm1, he⟩ := umod_int a0 17 (by omega) (by omega)
  obtain ⟨m, rfl⟩ := Int.eq_ofNat_of_zero_le hm0
  have hm : m < 17 := by omega
  have F := facts m hm
  obtain ⟨x, hx⟩ : ∃ x, bs (kwL.getD m []) = x := ⟨_, rfl⟩
  rw [hx] at F
  have hx' := Lib.hid hx; clear hx
  obtain ⟨y, hy⟩ : ∃ y, x ++ (⟨#[95]⟩ : ByteArray) = y := ⟨_, rfl⟩
  have k1 := Lib.hid fun (W : World) (h : errTy W) => tokens_any x W (by have := F.g; omega) h
  rw [F.a] at k1
  have k2 := Lib.hid fun (W : World) (h : errTy W) => tokens_any y W (by rw [← hy]; have := F.g; have h1 : (⟨#[95]⟩ : ByteArray).size = 1 := rfl; simp; omega) h
  rw [← hy, F.b, hy] at k2
  have hf : (2 : Int) ≤ x.size := by have := F.f; omega
  have hf2 : (x.size : Int) ≤ 100 := by have := F.g; omega
  have F' := Lib.hid F; clear F
  have h0l := hgl hg.out
  go_enter Tryd.func6, Tryd.ntmps6
  go_wp2_with fail
  refine (awake_any _ hg.out).mono ?_
  rintro e w1 ⟨rfl, hb1⟩
  have hB1 := Lib.hid hb1
  have hg1 := Lib.hid (errTy_below hg.out hb1)
  clear hb1
  have hc : (w1.alloc (.cells #[.string ⟨#[102, 117, 110]⟩, .string ⟨#[108, 101, 116]⟩, .string ⟨#[114, 101, 99]⟩, .string ⟨#[105, 110]⟩, .string ⟨#[105, 102]⟩, .string ⟨#[116, 104, 101, 110]⟩, .string ⟨#[101, 108, 115, 101]⟩, .string ⟨#[104, 97, 110, 100, 108, 101]⟩, .string ⟨#[119, 105, 116, 104]⟩, .string ⟨#[114, 101, 116, 117, 114, 110]⟩, .string ⟨#[101, 110, 100]⟩, .string ⟨#[100, 111]⟩, .string ⟨#[111, 112]⟩, .string ⟨#[116, 114, 117, 101]⟩, .string ⟨#[102, 97, 108, 115, 101]⟩, .string ⟨#[105, 110, 116]⟩, .string ⟨#[98, 111, 111, 108]⟩] 9)).cell? ⟨w1.heap.size, m, none⟩ = some (.string x) := by
    rw [World.cell?_alloc_at _ _ _ _ (by rfl), ← hx'.out]
    have hcs : m = 0 ∨ m = 1 ∨ m = 2 ∨ m = 3 ∨ m = 4 ∨ m = 5 ∨ m = 6 ∨ m = 7 ∨ m = 8 ∨ m = 9 ∨ m = 10 ∨ m = 11 ∨ m = 12 ∨ m = 13 ∨ m = 14 ∨ m = 15 ∨ m = 16 := (by omega); rcases hcs with rfl | rfl | rfl | rfl | rfl | rfl | rfl | rfl | rfl | rfl | rfl | rfl | rfl | rfl | rfl | rfl | rfl <;> rfl
  go_wp2_with fail
  refine (k1.out _ (errTy_below hg1.out (by (repeat' (first | with_reducible exact Below.refl _ _ | with_reducible assumption | with_reducible apply Below.setCell | with_reducible apply Below.alloc | with_reducible apply Below.drew | with_reducible apply below_drewN | with_reducible exact Nat.le_refl _ | (simp; done) | (simp; omega) | omega | exact Nat.le_refl _))))).mono ?_
  rintro e w2 ⟨v1, rfl, ho1, hb2⟩
  have r1 := Lib.hid (OwnK.rd ho1)
  have hB2 := Lib.hid (belT (belT hB1.out (by (repeat' (first | with_reducible exact Below.refl _ _ | with_reducible assumption | with_reducible apply Below.setCell | with_reducible apply Below.alloc | with_reducible apply Below.drew | with_reducible apply below_drewN | with_reducible exact Nat.le_refl _ | (simp; done) | (simp; omega) | omega | exact Nat.le_refl _)))) hb2)
  have hg2 := Lib.hid (errTy_below (errTy_below hg1.out (by (repeat' (first | with_reducible exact Below.refl _ _ | with_reducible assumption | with_reducible apply Below.setCell | with_reducible apply Below.alloc | with_reducible apply Below.drew | with_reducible apply below_drewN | with_reducible exact Nat.le_refl _ | (simp; done) | (simp; omega) | omega | exact Nat.le_refl _)))) hb2)
  clear ho1 hb2 hc
  go_wp2_with fail
  refine (k2.out _ hg2.out).mono ?_
  rintro e w3 ⟨v2, rfl, ho2, hb3⟩
  have r2 := Lib.hid (OwnK.rd ho2)
  have r1b := Lib.hid (r1.out.below hb3)
  have hB3 := Lib.hid (belT hB2.out hb3)
  clear ho2 hb3 r1
  obtain ⟨g, c, rfl, hgs, hsl⟩ : ∃ g c, v1 = .slice (some ⟨g, 0, none⟩) 1 c ∧ g < w3.heap.size ∧ TkSl w3 g 0 [⟨2, x.data.toList, 0, 0⟩] := by
    rcases r1b.out with ⟨h, _⟩ | h
    · cases h
    · exact h
  obtain ⟨g', c', rfl, hgs', hsl'⟩ : ∃ g c, v2 = .slice (some ⟨g, 0, none⟩) 1 c ∧ g < w3.heap.size ∧ TkSl w3 g 0 [⟨0, y.data.toList, 0, 0⟩] := by
    rcases r2.out with ⟨h, _⟩ | h
    · cases h
    · exact h
  obtain ⟨e0, e1, e2, e3⟩ := hsl 0 (by simp)
  obtain ⟨d0, d1, d2, d3⟩ := hsl' 0 (by simp)
  clear hsl hsl' r1b r2
  simp only [Nat.zero_mul, Nat.zero_add, List.getD_cons_zero, bs_of] at e0 e1 e2 e3 d0 d1 d2 d3
  have q1 := Lib.hid fun (W : World) => show Calls Tryd.prog 13 #[.string (x ++ ⟨#[120]⟩)] W fun e w' => e = .returned (.bool false) ∧ W = w' from (keyword_any _ W).mono fun e w' ⟨h, h2⟩ => ⟨by rw [h, F'.out.d], h2⟩
  have q2 := Lib.hid fun (W : World) => show Calls Tryd.prog 13 #[.string x] W fun e w' => e = .returned (.bool true) ∧ W = w' from (keyword_any _ W).mono fun e w' ⟨h, h2⟩ => ⟨by rw [h, F'.out.c], h2⟩
  have q3 := Lib.hid fun (W : World) => show Calls Tryd.prog 13 #[.string (x ++ ⟨#[32]⟩ ++ t)] W fun e w' => e = .returned (.bool false) ∧ W = w' from (keyword_any _ W).mono fun e w' ⟨h, h2⟩ => ⟨by rw [h, kw_blank _ (by simp)], h2⟩
  have q4 := Lib.hid fun (W : World) => show Calls Tryd.prog 13 #[.string ((⟨#[32]⟩ : ByteArray) ++ x)] W fun e w' => e = .returned (.bool false) ∧ W = w' from (keyword_any _ W).mono fun e w' ⟨h, h2⟩ => ⟨by rw [h, kw_blank _ (by simp)], h2⟩
  obtain ⟨z, hz⟩ : ∃ z, x.extract 0 (x.size - 1) = z := ⟨_, rfl⟩
  obtain ⟨lb, hlb⟩ : ∃ b, kwB z.data.toList = b := ⟨_, rfl⟩
  have hint : lb = true → (x.toList == [105, 110, 116]) = true := fun h => by
    rcases F'.out.e with h2 | h2
    · rw [hz, hlb, h] at h2; cases h2
    · exact h2
  have hint' := Lib.hid hint
  have q5 := Lib.hid fun (W : World) => show Calls Tryd.prog 13 #[.string z] W fun e w' => e = .returned (.bool lb) ∧ W = w' from (keyword_any _ W).mono fun e w' ⟨h, h2⟩ => ⟨by rw [h, hlb], h2⟩
  clear hint hlb
  have hn1 : (x.size : Int) - 1 = ((x.size - 1 : Nat) : Int) := by omega
  cases lb
  · clear hint'
    go_wp2_with (first | ((go_at_call 12; refine (num_any _ _ (by omega) (by omega)).mono ?_; rintro e w' ⟨rfl, rfl⟩)) | ((go_at_call 13; first | (with_reducible refine (q1.out _).mono ?_) | (with_reducible refine (q2.out _).mono ?_) | (with_reducible refine (q3.out _).mono ?_) | (with_reducible refine (q4.out _).mono ?_) | (with_reducible refine (q5.out _).mono ?_)); rintro e w' ⟨rfl, rfl⟩))
    go_ret
    exact ⟨rfl, hB3.out⟩
  · have hi := hint'.out rfl
    clear hint'
    go_wp2_with (first | ((go_at_call 12; refine (num_any _ _ (by omega) (by omega)).mono ?_; rintro e w' ⟨rfl, rfl⟩)) | ((go_at_call 13; first | (with_reducible refine (q1.out _).mono ?_) | (with_reducible refine (q2.out _).mono ?_) | (with_reducible refine (q3.out _).mono ?_) | (with_reducible refine (q4.out _).mono ?_) | (with_reducible refine (q5.out _).mono ?_)); rintro e w' ⟨rfl, rfl⟩))
    go_ret
    exact ⟨rfl, hB3.out⟩
theorem own : ownKnob Tryd.prog.godebug = none := by kernel_rfl
theorem laidOut : laidOutB Tryd.prog = true := by kernel_rfl
set_option maxRecDepth 100000 in
theorem contract (H : Type) (enc : TypeId × Value → H) (W : World) (base : Nat) (args : Array Value) (ds gs : List (DataW H)) (before : List MemPlace)
    (hval0 : ∀ (j : Nat) t v, Tryd.f6.params[j]? = some t → args[j]? = some v → Value.okWide Tryd.prog W .any base t v)
    (hW : DataW.Whole enc Tryd.prog Tryd.f6.params.toList Rows.lexWordsSpec.vars false W args.toList ds gs before)
    (hsz0 : (DataW.weightsEach Tryd.prog (Tryd.f6.params.toList ++ Rows.lexWordsSpec.plain.varTypes Tryd.prog) (ds ++ gs)).all (· ≤ reachBytes) = true)
    (hL : laidMetH Tryd.prog Rows.lexWordsRow.laid W)
    : Calls Tryd.prog 6 args W fun e W' => ∃ v, e = .returned v ∧ Rows.lexWordsSpec.post enc Tryd.prog Tryd.f6 false true false false W args v W' := by
  have hval : ∀ (j : Nat) t v, Tryd.f6.params[j]? = some t → args[j]? = some v → Value.okWide Tryd.prog W .any base t v := hval0
  have hsz : (DataW.weightsEach Tryd.prog (Tryd.f6.params.toList ++ Rows.lexWordsSpec.plain.varTypes Tryd.prog) (ds ++ gs)).all (· ≤ reachBytes) = true := hsz0
  have hW' := hW
  obtain ⟨p, q, hA0, hV, rfl, hfz, hnd⟩ := hW
  have hA : DataW.TrodAll enc Tryd.prog W 0 (fun _ => true) true Tryd.f6.params.toList args.toList ds p := hA0
  rw [Tryd.params6] at hA hval hsz
  obtain ⟨v0, vs0, d0, ds0, p0, q0, hargs, rfl, rfl, h0, r0⟩ := trodAll_cons hA
  obtain ⟨v1, vs1, d1, ds1, p1, q1, rfl, rfl, rfl, h1, r1⟩ := trodAll_cons r0
  obtain ⟨rfl, rfl, rfl⟩ := trodAll_nil r1
  obtain rfl : args = #[v0, v1] := by cases args; simp_all
  obtain ⟨rfl, rfl⟩ := trodVars_none hV
  have k0 := h0
  have lt0 : ∀ x ∈ p0, x.block < W.heap.size := by obtain ⟨m, hm⟩ := k0; exact DataW.trod_lt m _ _ _ hm
  obtain ⟨a0, rfl, rfl, rfl, m0⟩ := open_int Tryd.underlying3 (hval 0 3 v0 rfl rfl) h0
  have k1 := h1
  have lt1 : ∀ x ∈ p1, x.block < W.heap.size := by obtain ⟨m, hm⟩ := k1; exact DataW.trod_lt m _ _ _ hm
  obtain ⟨a1, rfl, rfl, rfl, m1⟩ := open_string Tryd.underlying9 (hval 1 9 v1 rfl rfl) h1
  have w1 : a1.size ≤ 140737488351232 := by
    have := sized_string hsz (j := 1) (t := 9) rfl rfl
    simp [reachBytes] at this; omega
  clear hA0 hval0
  refine (walk a0 a1 W (bd_i64 m0) w1 (tabs hL)).mono fun e W' ⟨he, bel⟩ => ?_
  subst he
  exact ⟨_, rfl, _, _, _, [], _, [], hW', trodAll_mk1 (shut_bool Tryd.underlying4 _), (trodAll_cons_mk (Below.trod laidOut (by kernel_rfl) (of_decide_eq_true (by kernel_rfl)) k0 bel lt0) (trodAll_cons_mk (Below.trod laidOut (by kernel_rfl) (of_decide_eq_true (by kernel_rfl)) k1 bel lt1) trodAll_mk0)), rfl, bel.frame _, fun h => by cases h⟩
theorem laid_met (os : Os) : laidMetH Tryd.prog Rows.lexWordsRow.laid ((handleWorld os).forCall (fun _ _ => 0) ⟨#[], #[.int .i64 0, .string ByteArray.empty], []⟩).memory := laidMetH_of_parts (laidMet_nil _ _) (by kernel_rfl)
theorem reads (os : Os) {H : Type} (enc : TypeId × Value → H) : ∃ places, DataW.whole enc Tryd.prog ((handleWorld os).forCall (fun _ _ => 0) ⟨#[], #[.int .i64 0, .string ByteArray.empty], []⟩).memory Tryd.f6.params.toList Rows.lexWordsSpec.vars false #[(.int .i64 0 : Value), (.string ByteArray.empty : Value)].toList 8 = some ([.lit (.int .i64 0), .lit (.string [])], [], places) := ⟨[], by kernel_rfl⟩
set_option maxRecDepth 100000 in
theorem lifted (os : Os) (started : os.Started) (H : Type) (enc : TypeId × Value → H) (F : Stop.Interp) :
    ReturnsInHanded {} Tryd.checked os 6 .any ((OpenSpec.ofChange Rows.lexWordsSpec).preRow enc Tryd.prog Tryd.f6 Rows.lexWordsRow.domain false Rows.lexWordsRow.laid) (((OpenSpec.ofChange Rows.lexWordsSpec).at F).post enc Tryd.prog Tryd.f6 false true false false) := by
  obtain ⟨places, hx⟩ := reads os enc
  refine returnsInHanded_of_row (C := Tryd.checked) (s := (OpenSpec.ofChange Rows.lexWordsSpec)) own started (by kernel_rfl) Tryd.func6
    (witness_row_at (enc := enc) (C := Tryd.checked) false (handleWorld os) #[.int .i64 0, .string ByteArray.empty] rfl (by kernel_rfl) (by kernel_rfl) (by kernel_rfl)
      (OpenSpec.preRow_of_cond 8 hx (by kernel_rfl) (fun k hk => by cases hk) (by kernel_rfl) (laid_met os))) ?_
  intro W base args ds gs before hval hW _ hcnd hsz hL _ _
  exact contract H enc W base args ds gs before hval hW hsz  hL
theorem said : Rows.LexWordsSaid :=
  OpenClaim.holds_of_cond 6 Tryd.f6 rfl rfl rfl rfl rfl rfl rfl ⟨rfl, rfl, rfl, rfl, rfl⟩ rfl rfl rfl rfl rfl (by kernel_rfl) Tryd.func6 (by kernel_rfl)
    (of_decide_eq_true (by kernel_rfl)) (by unfold Func.isWrapper; first | (rw [if_pos (by decide +kernel)]; kernel_rfl) | (rw [if_neg (by decide +kernel)]; exact ⟨rfl, rfl⟩))
    (fun os started H enc _ F => by rw [OpenClaim.pre_eq_preRow]; exact lifted os started H enc F)
theorem plain (f : FuncId) (fn : Func) (hf : Tryd.pinned.checked.prog.funcNamed "trammel/trammellaw2.LexWords" = some f) (hfn : Tryd.pinned.checked.prog.funcs[f]? = some fn) :
    true = Tryd.pinned.checked.prog.looks [] ∧ ∀ (j : Nat) t, fn.params[j]? = some t → Tryd.pinned.checked.prog.wantsStandIn t = false := by
  obtain rfl : f = 6 := Option.some.inj ((show Tryd.prog.funcNamed "trammel/trammellaw2.LexWords" = some 6 by kernel_rfl).symm.trans hf) |>.symm
  obtain rfl : fn = Tryd.f6 := (Option.some.inj (Tryd.func6.symm.trans hfn)).symm
  refine ⟨by kernel_rfl, fun j t ht => ?_⟩
  rw [Tryd.params6] at ht
  have hm := Array.mem_of_getElem? ht
  have hm2 : t ∈ ([3, 9] : List Nat) := by simpa using hm
  simp only [List.mem_cons, List.not_mem_nil, or_false] at hm2
  rcases hm2 with rfl | rfl
  · exact (show Tryd.prog.wantsStandIn 3 = false by kernel_rfl)
  · exact (show Tryd.prog.wantsStandIn 9 = false by kernel_rfl)
theorem proved : Rows.LexWordsCardSaid :=
  Claim7.holds_tied_plain_at .later [] _ _ _ _ said (fun _ h => by cases h) (by kernel_rfl) (fun _ h => by cases h) lexWords_row_tie rfl ⟨rfl, rfl⟩ (by kernel_rfl) rfl plain (by kernel_rfl)
end Go.Proofs.YtgpjdifjajailaaDoor.lexWords
