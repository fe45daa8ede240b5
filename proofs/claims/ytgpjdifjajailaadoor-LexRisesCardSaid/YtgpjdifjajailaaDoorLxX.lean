/- Plain facts: tokens stand one behind the other, each as its bytes are. -/
import Derived.Test.YtgpjdifjajailaaDoorLxW
namespace Go.Proofs.YtgpjdifjajailaaDoor
open Go.RowKit
set_option linter.unusedVariables false
set_option linter.unusedSimpArgs false
theorem dd_snoc {q d : Nat} (hq : 0 < q) (hd : d < 10) : Lib.decDigits (q * 10 + d) = Lib.decDigits q ++ [UInt8.ofNat (48 + d)] := by
  rw [dd_hi (by omega), show (q * 10 + d) / 10 = q by omega, show (q * 10 + d) % 10 = d by omega]
theorem dd_back : ∀ (k : Nat) (x : List UInt8), x.length = k → x ≠ [] → x.all isD = true → (x = [48] ∨ x.head? ≠ some 48) → Lib.decDigits (valF x) = x := by
  intro k
  induction k with
  | zero => intro x hk hne; exact absurd (List.eq_nil_of_length_eq_zero hk) hne
  | succ k ih =>
    intro x hk hne hall hz
    obtain ⟨l, c, rfl⟩ : ∃ l c, x = l ++ [c] := ⟨x.dropLast, x.getLast hne, (List.dropLast_concat_getLast hne).symm⟩
    have hlen : l.length = k := by simp at hk; exact hk
    rw [List.all_append, Bool.and_eq_true] at hall
    have hc : isD c = true := by have := hall.2; rw [List.all_cons, Bool.and_eq_true] at this; exact this.1
    have hcb := isD_bd hc
    have hcd : UInt8.ofNat (48 + (c.toNat - 48)) = c := by rw [show 48 + (c.toNat - 48) = c.toNat by omega]; simp
    rw [valF_snoc]
    cases l with
    | nil =>
      simp only [valF, List.foldl_nil, Nat.zero_mul, Nat.zero_add, List.nil_append]
      rw [dd_lo (by omega), hcd]
    | cons a r =>
      have hz2 : (a :: r).head? ≠ some 48 := by
        rcases hz with h | h
        · simp at h
        · simpa using h
      have ha : a ≠ 48 := fun e => hz2 (by rw [e]; rfl)
      have h1 := hall.1
      rw [List.all_cons, Bool.and_eq_true] at h1
      have hab := isD_bd h1.1
      have ha2 : a.toNat ≠ 48 := fun e => ha (by rw [show (48 : UInt8) = UInt8.ofNat 48 from rfl, ← e]; simp)
      have hpos : 0 < valF (a :: r) := by
        have := fold_mono r (a.toNat - 48)
        have hv : valF (a :: r) = r.foldl (fun n c => n * 10 + (c.toNat - 48)) (a.toNat - 48) := by simp [valF]
        omega
      rw [dd_snoc hpos (by omega), ih (a :: r) hlen (by simp) hall.1 (.inr hz2), hcd]
theorem num_back {x : List UInt8} (hne : x ≠ []) (h : numOk x = true) : Lib.decDigits (valF x) = x ∧ valF x ≤ 1073741823 := by
  rw [numOk_eq, Bool.and_eq_true, Bool.and_eq_true] at h
  refine ⟨dd_back _ x rfl hne h.1.1 ?_, of_decide_eq_true h.2⟩
  have := h.1.2
  unfold leadZ at this
  rw [Bool.or_eq_true] at this
  rcases this with h | h
  · left; simpa using h
  · right; simpa using h
/-- a token's bytes, as they are written. -/
def wd (t : Tk) : List UInt8 := if t.kind = 1 then Lib.itoa t.num else t.text
theorem first_wd {m : List UInt8} {t : Tk} {n : Nat} (hne : m ≠ []) (hf : firstF m = (t, n, 0)) :
    wd t = m.take n ∧ 0 < n ∧ n ≤ m.length ∧ (t.kind = 2 → kwB (wd t) = true) ∧ (t.kind = 0 → kwB (wd t) = false) ∧ (t.kind = 1 → 0 ≤ t.num ∧ t.num ≤ 1073741823) := by
  have hp := first_drop hne hf
  match m, hne with
  | c :: r, _ =>
    by_cases hl : isL c = true
    · rw [first_L hl] at hf
      obtain ⟨x, hx⟩ : ∃ x, (c :: r).take (runN (c :: r)) = x := ⟨_, rfl⟩
      rw [hx] at hf
      have hxn : x = (c :: r).take n := by
        have : x.length = n := congrArg (fun q => q.2.1) hf
        rw [← hx, ← this, ← hx, List.length_take, List.take_eq_take_iff]; omega
      cases hk : kwB x
      · by_cases h16 : 16 < x.length
        · rw [wordF_long hk h16] at hf; simp at hf
        · rw [wordF_name hk (by omega)] at hf
          obtain rfl : (⟨0, x, 0, 0⟩ : Tk) = t := congrArg (fun q => q.1) hf
          refine ⟨by rw [← hxn]; rfl, hp.1, hp.2, fun h => by simp at h, fun _ => hk, fun h => by simp at h⟩
      · rw [wordF_kw hk] at hf
        obtain rfl : (⟨2, x, 0, 0⟩ : Tk) = t := congrArg (fun q => q.1) hf
        refine ⟨by rw [← hxn]; rfl, hp.1, hp.2, fun _ => hk, fun h => by simp at h, fun h => by simp at h⟩
    · have hl : isL c = false := by simpa using hl
      by_cases hd : isD c = true
      · rw [first_D hl hd] at hf
        obtain ⟨x, hx⟩ : ∃ x, (c :: r).take (runN (c :: r)) = x := ⟨_, rfl⟩
        rw [hx] at hf
        have hxn : x = (c :: r).take n := by
          have : x.length = n := congrArg (fun q => q.2.1) hf
          rw [← hx, ← this, ← hx, List.length_take, List.take_eq_take_iff]; omega
        cases hok : numOk x
        · rw [(num_no hok).2] at hf; simp at hf
        · rw [(num_yes hok).1, (num_yes hok).2] at hf
          obtain rfl : (⟨1, [], (valF x : Int), 0⟩ : Tk) = t := congrArg (fun q => q.1) hf
          have hb := num_back (by rw [hxn]; intro e; have := congrArg List.length e; rw [List.length_take] at this; simp at this hp; omega) hok
          refine ⟨by rw [← hxn]; show Lib.itoa (valF x : Int) = x; rw [itoa_nat, hb.1], hp.1, hp.2, fun h => by simp at h, fun h => by simp at h, fun _ => ⟨by show (0 : Int) ≤ (valF x : Int); omega, by show (valF x : Int) ≤ 1073741823; have := hb.2; omega⟩⟩
      · have hd : isD c = false := by simpa using hd
        by_cases hs : signF (c :: r) = 0
        · rw [first_N hl hd hs] at hf; simp at hf
        · rw [first_S hl hd hs] at hf
          obtain ⟨x, hx⟩ : ∃ x, (c :: r).take (signF (c :: r)) = x := ⟨_, rfl⟩
          rw [hx] at hf
          have hxn : x = (c :: r).take n := by
            have : x.length = n := congrArg (fun q => q.2.1) hf
            rw [← hx, ← this, ← hx, List.length_take, List.take_eq_take_iff]; omega
          obtain rfl : (⟨3, x, 0, 0⟩ : Tk) = t := congrArg (fun q => q.1) hf
          refine ⟨by rw [← hxn]; rfl, hp.1, hp.2, fun h => by simp at h, fun h => by simp at h, fun h => by simp at h⟩
def TokOk (l : List UInt8) : Nat → List Tk → Prop
  | _, [] => True
  | q, t :: r => (∃ a : Nat, t.at_ = a ∧ q ≤ a ∧ wd t ≠ [] ∧ a + (wd t).length ≤ l.length ∧ (l.drop a).take (wd t).length = wd t ∧ (t.kind = 2 → kwB (wd t) = true) ∧ (t.kind = 0 → kwB (wd t) = false) ∧ (t.kind = 1 → 0 ≤ t.num ∧ t.num ≤ 1073741823) ∧ TokOk l (a + (wd t).length) r)
theorem lx_rises (l : List UInt8) : ∀ (f : Nat) (m : List UInt8) (p : Nat) (acc : List Tk), m = l.drop p → p ≤ l.length → m.length < f →
    ((lx f m p acc).2.2 = 0 → (lx f m p acc).2.1 = 0 ∧ ∃ rest, (lx f m p acc).1 = acc ++ rest ∧ TokOk l p rest) ∧ ((lx f m p acc).2.2 ≠ 0 → (lx f m p acc).1 = [] ∧ 0 ≤ (lx f m p acc).2.1 ∧ (lx f m p acc).2.1 ≤ l.length)
  | 0, _, _, _, _, _, h => by omega
  | f + 1, m, p, acc, hm, hp, hf => by
    unfold lx
    simp only []
    have hml : m.length = l.length - p := by rw [hm, List.length_drop]
    have hsl := skipF_le m false
    by_cases h0 : m.drop (skipF false m) = []
    · rw [if_pos h0]
      exact ⟨fun _ => ⟨rfl, [], by simp, trivial⟩, fun h => absurd rfl h⟩
    · rw [if_neg h0]
      have hd : m.drop (skipF false m) = l.drop (p + skipF false m) := by rw [hm, List.drop_drop]
      have hdl : (m.drop (skipF false m)).length = m.length - skipF false m := List.length_drop
      by_cases he : (firstF (m.drop (skipF false m))).2.2 = 0
      · rw [if_pos he]
        obtain ⟨r, hr⟩ : ∃ r, firstF (m.drop (skipF false m)) = r := ⟨_, rfl⟩
        rw [hr] at he ⊢
        obtain ⟨⟨kd, tx, nm, a0⟩, n, er⟩ := r
        obtain rfl : er = 0 := he
        obtain ⟨hw, hn0, hnl, hk2, hk0, hk1⟩ := first_wd h0 hr
        have hww : wd ⟨kd, tx, nm, ((p + skipF false m : Nat) : Int)⟩ = (m.drop (skipF false m)).take n := hw
        have hwl : (wd ⟨kd, tx, nm, ((p + skipF false m : Nat) : Int)⟩).length = n := by rw [hww, List.length_take]; omega
        have ih := lx_rises l f ((m.drop (skipF false m)).drop n) (p + skipF false m + n) (acc ++ [⟨kd, tx, nm, ((p + skipF false m : Nat) : Int)⟩]) (by rw [hd, List.drop_drop]) (by omega) (by rw [List.length_drop]; omega)
        refine ⟨fun h => ?_, fun h => ih.2 h⟩
        obtain ⟨h1, rest, h2, h3⟩ := ih.1 h
        refine ⟨h1, ⟨kd, tx, nm, ((p + skipF false m : Nat) : Int)⟩ :: rest, by rw [h2, List.append_assoc]; rfl, p + skipF false m, rfl, by omega, ?_, ?_, ?_, hk2, hk0, hk1, ?_⟩
        · intro e; rw [e] at hwl; simp at hwl; omega
        · rw [hwl]; omega
        · rw [hwl, hww, hd]
        · rw [hwl]; exact h3
      · rw [if_neg he]
        refine ⟨fun h => absurd h he, fun _ => ⟨rfl, by simp; omega, ?_⟩⟩
        have : 0 < (m.drop (skipF false m)).length := List.length_pos_iff.2 h0
        simp
        omega
theorem vaF_bd (s : ByteArray) : ∀ (f k : Nat), 0 ≤ (vaF s f k).1 ∧ (vaF s f k).1 ≤ s.size
  | 0, k => by simp [vaF]
  | f + 1, k => by
    unfold vaF
    split
    · split
      · simp; omega
      · exact vaF_bd s f _
    · simp
theorem vaV_bd (s : ByteArray) : 0 ≤ (vaV s).1 ∧ (vaV s).1 ≤ s.size := vaF_bd s _ _
theorem lexR_rises (s : ByteArray) : ((lexR s).2.2 = 0 → (lexR s).2.1 = 0 ∧ TokOk s.data.toList 0 (lexR s).1) ∧ ((lexR s).2.2 ≠ 0 → (lexR s).1 = [] ∧ 0 ≤ (lexR s).2.1 ∧ (lexR s).2.1 ≤ s.size) := by
  unfold lexR
  split
  · exact ⟨fun h => by simp at h, fun _ => ⟨rfl, by simp, by simp⟩⟩
  · split
    · refine ⟨fun h => by simp at h, fun _ => ⟨rfl, (vaV_bd s).1, (vaV_bd s).2⟩⟩
    · have := lx_rises s.data.toList (s.data.toList.length + 1) s.data.toList 0 [] rfl (Nat.zero_le _) (by omega)
      unfold lxAt
      refine ⟨fun h => ?_, fun h => ?_⟩
      · obtain ⟨h1, rest, h2, h3⟩ := this.1 h
        rw [List.nil_append] at h2
        exact ⟨h1, by rw [h2]; exact h3⟩
      · have h := this.2 h
        rw [len_list] at h
        exact h
end Go.Proofs.YtgpjdifjajailaaDoor
