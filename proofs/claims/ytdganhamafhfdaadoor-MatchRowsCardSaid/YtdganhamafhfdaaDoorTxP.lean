/- Texts of types tell them but for names: plain facts. -/
import Derived.Test.YtdganhamafhfdaaDoorTxA
import Derived.Test.YtdganhamafhfdaaDoorMtP
namespace Go.Proofs.YtdganhamafhfdaaDoor
set_option linter.unusedVariables false
set_option linter.unusedSimpArgs false

def isDg (b : UInt8) : Bool := decide (48 ≤ b.toNat ∧ b.toNat ≤ 57)
def valD (l : List UInt8) : Nat := l.foldl (fun a b => a * 10 + (b.toNat - 48)) 0
theorem dd_val (u : Nat) : valD (Lib.decDigits u) = u ∧ ∀ b ∈ Lib.decDigits u, isDg b = true := by
  induction u using Nat.strongRecOn with
  | _ u ih =>
    rw [Lib.decDigits]
    by_cases h : u < 10
    · rw [dif_pos h]
      have e : (UInt8.ofNat (48 + u)).toNat = 48 + u := by simp; omega
      refine ⟨by unfold valD; simp only [List.foldl]; rw [e]; omega, ?_⟩
      intro b hb
      rw [List.mem_singleton] at hb
      subst hb
      unfold isDg; rw [e]; exact decide_eq_true (by omega)
    · rw [dif_neg h]
      obtain ⟨h1, h2⟩ := ih (u / 10) (by omega)
      have e : (UInt8.ofNat (48 + u % 10)).toNat = 48 + u % 10 := by simp; omega
      refine ⟨?_, ?_⟩
      · unfold valD at h1 ⊢
        rw [List.foldl_append, h1]
        simp only [List.foldl]
        rw [e]; omega
      · intro b hb
        rcases List.mem_append.1 hb with hb | hb
        · exact h2 b hb
        · rw [List.mem_singleton] at hb
          subst hb
          unfold isDg; rw [e]; exact decide_eq_true (by omega)
/-- no digit stands here. -/
def Ends (X : List UInt8) : Prop := ∀ b, X.head? = some b → isDg b = false
theorem dg_take : ∀ (d X : List UInt8), (∀ b ∈ d, isDg b = true) → Ends X → (d ++ X).takeWhile isDg = d
  | [], X, _, hX => by
    cases X with
    | nil => rfl
    | cons b X => rw [List.nil_append, List.takeWhile_cons, hX b rfl]; rfl
  | b :: d, X, h, hX => by
    rw [List.cons_append, List.takeWhile_cons, h b (List.mem_cons_self ..), if_pos rfl, dg_take d X (fun c hc => h c (List.mem_cons_of_mem _ hc)) hX]
theorem it_split {n m : Nat} {X Y : List UInt8} (hX : Ends X) (hY : Ends Y) (h : Lib.itoa (n : Int) ++ X = Lib.itoa (m : Int) ++ Y) : n = m ∧ X = Y := by
  have e : ∀ k : Nat, Lib.itoa (k : Int) = Lib.decDigits k := fun k => by unfold Lib.itoa; rw [if_neg (by omega)]; rfl
  rw [e, e] at h
  have h1 := dg_take _ X (dd_val n).2 hX
  rw [h, dg_take _ Y (dd_val m).2 hY] at h1
  rw [h1] at h
  exact ⟨by rw [← (dd_val n).1, ← (dd_val m).1, h1], List.append_cancel_left h⟩
theorem by_split {c : UInt8} : ∀ {a b X Y : List UInt8}, a ++ c :: X = b ++ c :: Y → c ∉ a → c ∉ b → a = b ∧ X = Y
  | [], [], X, Y, h, _, _ => ⟨rfl, by injection h⟩
  | [], y :: b, X, Y, h, _, hb => by
    injection h with h1 _; exact absurd (h1 ▸ List.mem_cons_self ..) hb
  | x :: a, [], X, Y, h, ha, _ => by
    injection h with h1 _; exact absurd (h1 ▸ List.mem_cons_self ..) ha
  | x :: a, y :: b, X, Y, h, ha, hb => by
    injection h with h1 h2
    obtain ⟨h3, h4⟩ := by_split h2 (fun h => ha (List.mem_cons_of_mem _ h)) (fun h => hb (List.mem_cons_of_mem _ h))
    exact ⟨by rw [h1, h3], h4⟩
def rwJ (r : Rw) : List UInt8 := Lib.join ((opsL (cnt4 r.a r.b r.c r.d) 4).map (·.data.toList)) [44]
theorem rwT_eq (r : Rw) (s : List UInt8) : rwT r s = 60 :: (rwJ r ++ (if 0 ≤ r.t then 124 :: 101 :: s else [])) ++ [62] := by
  unfold rwT rowK rwJ
  by_cases h : 0 ≤ r.t
  · simp [h]
  · simp [h]
theorem join_count {b : UInt8} (hb : b ≠ 44) : ∀ xs : List (List UInt8), (Lib.join xs [44]).count b = (xs.map (List.count b)).sum := by
  intro xs
  cases xs with
  | nil => rfl
  | cons x r =>
    rw [Lib.join_cons, List.count_append, List.map_cons, List.sum_cons]
    congr 1
    unfold Lib.joinTail
    induction r with
    | nil => rfl
    | cons y r ih =>
      rw [List.map_cons, List.flatten_cons, List.count_append, List.count_append, ih, List.map_cons, List.sum_cons]
      have : List.count b [44] = 0 := by rw [List.count_eq_zero]; simpa using hb
      omega
theorem rwJ_count (r : Rw) {b : UInt8} (hb : b ≠ 44) (hb2 : b ≠ 111) : (rwJ r).count b = (if b = 48 then r.a.toNat else 0) + (if b = 49 then r.b.toNat else 0) + (if b = 50 then r.c.toNat else 0) + (if b = 51 then r.d.toNat else 0) := by
  unfold rwJ
  rw [join_count hb]
  have hs : ∀ (n k : Nat), (((List.replicate n (opB k)).map (·.data.toList)).map (List.count b)).sum = if b = UInt8.ofNat (48 + k) then n else 0 := by
    intro n k
    have e : (opB k).data.toList = [111, UInt8.ofNat (48 + k)] := rfl
    have e2 : List.count b [111, UInt8.ofNat (48 + k)] = if b = UInt8.ofNat (48 + k) then 1 else 0 := by
      rw [List.count_cons, List.count_cons, List.count_nil]
      have : ((111 : UInt8) == b) = false := by simpa using fun h => hb2 h.symm
      rw [this]
      by_cases h : b = UInt8.ofNat (48 + k)
      · subst h; simp
      · have : (UInt8.ofNat (48 + k) == b) = false := by rw [beq_eq_false_iff_ne]; exact fun h' => h h'.symm
        rw [this, if_neg h]; rfl
    induction n with
    | zero => simp
    | succ n ih =>
      rw [List.replicate_succ, List.map_cons, List.map_cons, List.sum_cons, ih, e, e2]
      split <;> omega
  have e0 : cnt4 r.a r.b r.c r.d 0 = r.a.toNat := rfl
  have e1 : cnt4 r.a r.b r.c r.d 1 = r.b.toNat := rfl
  have e2 : cnt4 r.a r.b r.c r.d 2 = r.c.toNat := rfl
  have e3 : cnt4 r.a r.b r.c r.d 3 = r.d.toNat := rfl
  simp only [opsL, List.nil_append, List.map_append, List.sum_append, hs, e0, e1, e2, e3]
  rfl
theorem rwJ_no (r : Rw) {b : UInt8} (hb : b ≠ 44) (hb2 : b ≠ 111) (h0 : b ≠ 48) (h1 : b ≠ 49) (h2 : b ≠ 50) (h3 : b ≠ 51) : b ∉ rwJ r := by
  rw [← List.count_eq_zero, rwJ_count r hb hb2, if_neg h0, if_neg h1, if_neg h2, if_neg h3]
theorem it_no {n : Nat} {b : UInt8} (hb : isDg b = false) : b ∉ Lib.itoa (n : Int) := by
  have e : Lib.itoa (n : Int) = Lib.decDigits n := by unfold Lib.itoa; rw [if_neg (by omega)]; rfl
  intro h
  rw [e] at h
  rw [(dd_val n).2 b h] at hb; cases hb
theorem rw_split {r r' : Rw} (h : r.may = true) (h' : r'.may = true) {n m : Nat} {X Y : List UInt8} (he : rwT r (Lib.itoa (n : Int)) ++ X = rwT r' (Lib.itoa (m : Int)) ++ Y) :
    (r.a = r'.a ∧ r.b = r'.b ∧ r.c = r'.c ∧ r.d = r'.d) ∧ (r.t < 0 ↔ r'.t < 0) ∧ (0 ≤ r.t → n = m) ∧ X = Y := by
  have hm := of_decide_eq_true (show mayR r.a r.b r.c r.d r.t = true from h)
  have hm' := of_decide_eq_true (show mayR r'.a r'.b r'.c r'.d r'.t = true from h')
  rw [rwT_eq, rwT_eq] at he
  simp only [List.cons_append, List.append_assoc, List.nil_append] at he
  injection he with _ he
  have key : ∀ (r : Rw) (n : Nat), (62 : UInt8) ∉ rwJ r ++ (if 0 ≤ r.t then 124 :: 101 :: Lib.itoa (n : Int) else []) := by
    intro r n hc
    rcases List.mem_append.1 hc with hc | hc
    · exact rwJ_no r (by decide) (by decide) (by decide) (by decide) (by decide) (by decide) hc
    · split at hc
      · rcases List.mem_cons.1 hc with hc | hc
        · exact absurd hc (by decide)
        · rcases List.mem_cons.1 hc with hc | hc
          · exact absurd hc (by decide)
          · exact it_no (by decide) hc
      · cases hc
  rw [← List.append_assoc, ← List.append_assoc] at he
  obtain ⟨h1, h2⟩ := by_split he (key r n) (key r' m)
  have n124 : ∀ r : Rw, (124 : UInt8) ∉ rwJ r := fun r => rwJ_no r (by decide) (by decide) (by decide) (by decide) (by decide) (by decide)
  have hJ : rwJ r = rwJ r' ∧ (r.t < 0 ↔ r'.t < 0) ∧ (0 ≤ r.t → n = m) := by
    by_cases ht : 0 ≤ r.t
    · by_cases ht' : 0 ≤ r'.t
      · rw [if_pos ht, if_pos ht'] at h1
        obtain ⟨h3, h4⟩ := by_split h1 (n124 r) (n124 r')
        injection h4 with _ h4
        refine ⟨h3, by omega, fun _ => ?_⟩
        exact (it_split (X := []) (Y := []) (fun _ h => by cases h) (fun _ h => by cases h) (by rw [List.append_nil, List.append_nil]; exact h4)).1
      · rw [if_pos ht, if_neg ht', List.append_nil] at h1
        exact absurd (h1 ▸ List.mem_append_right _ (List.mem_cons_self ..)) (n124 r')
    · by_cases ht' : 0 ≤ r'.t
      · rw [if_neg ht, if_pos ht', List.append_nil] at h1
        exact absurd (h1 ▸ List.mem_append_right _ (List.mem_cons_self ..)) (n124 r)
      · rw [if_neg ht, if_neg ht', List.append_nil, List.append_nil] at h1
        exact ⟨h1, by omega, fun h => absurd h ht⟩
  obtain ⟨hJ, hR⟩ := hJ
  have c0 := rwJ_count r (b := 48) (by decide) (by decide)
  have c1 := rwJ_count r (b := 49) (by decide) (by decide)
  have c2 := rwJ_count r (b := 50) (by decide) (by decide)
  have c3 := rwJ_count r (b := 51) (by decide) (by decide)
  rw [hJ, rwJ_count r' (by decide) (by decide)] at c0 c1 c2 c3
  simp at c0 c1 c2 c3
  exact ⟨by omega, hR.1, hR.2, h2⟩
/-- other names. -/
def renS (f : Int → Int) : Int → Option TT := fun v => some (.var (f v))
def renR (g : Int → Int) : Int → Option Rw := fun t => some ⟨0, 0, 0, 0, g t⟩
def renT (f g : Int → Int) (T : TT) : TT := putT (renS f) (renR g) T
theorem renT_base (f g : Int → Int) (k : Int) : renT f g (.base k) = .base k := rfl
theorem renT_var (f g : Int → Int) (v : Int) : renT f g (.var v) = .var (f v) := rfl
theorem renT_fn (f g : Int → Int) (a b : TT) (r : Rw) : renT f g (.fn a r b) = .fn (renT f g a) (if r.t < 0 then r else ⟨r.a, r.b, r.c, r.d, g r.t⟩) (renT f g b) := by
  show TT.fn (putT (renS f) (renR g) a) (putR (renR g) r) (putT (renS f) (renR g) b) = _
  unfold renT putR renR
  simp only [Int.zero_add]
theorem addI_pre (l : List Int) (v : Int) : ∃ e, addI l v = l ++ e := by
  unfold addI; split
  · exact ⟨[], (List.append_nil _).symm⟩
  · exact ⟨_, rfl⟩
theorem addT_pre (l : List Int) (v : Int) : ∃ e, addT l v = l ++ e := by
  unfold addT; split
  · exact ⟨[], (List.append_nil _).symm⟩
  · exact addI_pre l v
theorem tvs_pre : ∀ (T : TT) (l : List Int), ∃ e, tvs T l = l ++ e
  | .base _, l => ⟨[], (List.append_nil _).symm⟩
  | .var v, l => addI_pre l v
  | .fn a r b, l => by
    obtain ⟨e, h⟩ := tvs_pre a l
    obtain ⟨e', h'⟩ := tvs_pre b (tvs a l)
    exact ⟨e ++ e', by unfold tvs; rw [h', h, List.append_assoc]⟩
theorem rvs_pre : ∀ (T : TT) (l : List Int), ∃ e, rvs T l = l ++ e
  | .base _, l => ⟨[], (List.append_nil _).symm⟩
  | .var v, l => ⟨[], (List.append_nil _).symm⟩
  | .fn a r b, l => by
    obtain ⟨e, h⟩ := rvs_pre a l
    obtain ⟨e2, h2⟩ := addT_pre (rvs a l) r.t
    obtain ⟨e', h'⟩ := rvs_pre b (addT (rvs a l) r.t)
    exact ⟨e ++ e2 ++ e', by unfold rvs; rw [h', h2, h, List.append_assoc, List.append_assoc]; simp⟩
theorem pre_map {f : Int → Int} {l l' L L' : List Int} (h : ∃ e, L = l ++ e) (h' : ∃ e, L' = l' ++ e) (hl : l.length = l'.length) (hm : L.map f = L') : l.map f = l' := by
  obtain ⟨e, rfl⟩ := h
  obtain ⟨e', rfl⟩ := h'
  rw [List.map_append] at hm
  exact (List.append_inj hm (by simpa using hl)).1
theorem posI_get (l : List Int) (v : Int) : posI l v < (addI l v).length ∧ (addI l v).getD (posI l v) 0 = v := by
  have hm : v ∈ addI l v := (addI_mem l v v).2 (.inr rfl)
  have h1 : posI l v < (addI l v).length := List.findIdx_lt_length_of_exists ⟨v, hm, by simp⟩
  refine ⟨h1, ?_⟩
  rw [List.getD_eq_getElem?_getD, List.getElem?_eq_getElem h1]
  exact eq_of_beq (List.findIdx_getElem (xs := addI l v) (p := (· == v)) (w := h1))
theorem addI_sz (l : List Int) (v : Int) : (addI l v).length = max l.length (posI l v + 1) := by
  cases h : hasI l v
  · obtain ⟨h1, h2⟩ := posI_new h
    rw [h1, h2, List.length_append]; simp
  · have hm : v ∈ l := (hasI_iff l v).1 h
    have : l.findIdx (· == v) < l.length := List.findIdx_lt_length_of_exists ⟨v, hm, by simp⟩
    rw [posI_has h]; unfold addI; rw [h, if_pos rfl]; omega
theorem ends_nil : Ends [] := fun _ h => by cases h
theorem ends_cons {b : UInt8} {X : List UInt8} (h : isDg b = false) : Ends (b :: X) := fun c hc => by injection hc with hc; rw [← hc]; exact h
theorem map_pos {f : Int → Int} {na ma : List Int} {v u : Int} (hp : posI na v = posI ma u) (hm : (addI na v).map f = addI ma u) : f v = u := by
  have h1 := posI_get na v
  have h2 := posI_get ma u
  rw [← hp, ← hm, List.getD_eq_getElem?_getD, List.getElem?_map] at h2
  rw [List.getD_eq_getElem?_getD] at h1
  rw [List.getElem?_eq_getElem h1.1] at h1 h2
  simp only [Option.map_some, Option.getD_some] at h1 h2
  rw [h1.2] at h2
  exact h2.2
set_option maxHeartbeats 2000000 in
/-- a text tells its type but for names. -/
theorem tx_split : ∀ (A B : TT) (na nb ma mb : List Int) (X Y : List UInt8), A.ok = true → B.ok = true → Ends X → Ends Y → na.length = ma.length → nb.length = mb.length → tx A na nb ++ X = tx B ma mb ++ Y →
    X = Y ∧ (tvs A na).length = (tvs B ma).length ∧ (rvs A nb).length = (rvs B mb).length ∧ ∀ f g : Int → Int, (tvs A na).map f = tvs B ma → (rvs A nb).map g = rvs B mb → renT f g A = B
  | .base k, .base k', na, nb, ma, mb, X, Y, hA, hB, hX, hY, hn, hm, h => by
    have h1 : k = 0 ∨ k = 1 := by simpa [TT.ok] using hA
    have h2 : k' = 0 ∨ k' = 1 := by simpa [TT.ok] using hB
    rcases h1 with rfl | rfl <;> rcases h2 with rfl | rfl <;> simp [tx] at h
    · exact ⟨h, hn, hm, fun f g _ _ => rfl⟩
    · exact ⟨h, hn, hm, fun f g _ _ => rfl⟩
  | .base k, .var v, na, nb, ma, mb, X, Y, hA, hB, hX, hY, hn, hm, h => by
    have h1 : k = 0 ∨ k = 1 := by simpa [TT.ok] using hA
    rcases h1 with rfl | rfl <;> simp [tx] at h
  | .base k, .fn a r b, na, nb, ma, mb, X, Y, hA, hB, hX, hY, hn, hm, h => by
    have h1 : k = 0 ∨ k = 1 := by simpa [TT.ok] using hA
    rcases h1 with rfl | rfl <;> simp [tx] at h
  | .var v, .base k, na, nb, ma, mb, X, Y, hA, hB, hX, hY, hn, hm, h => by
    have h1 : k = 0 ∨ k = 1 := by simpa [TT.ok] using hB
    rcases h1 with rfl | rfl <;> simp [tx] at h
  | .var v, .var u, na, nb, ma, mb, X, Y, hA, hB, hX, hY, hn, hm, h => by
    unfold tx at h
    simp only [List.cons_append] at h
    injection h with _ h
    obtain ⟨h1, h2⟩ := it_split hX hY h
    refine ⟨h2, ?_, hm, fun f g hf hg => ?_⟩
    · show (addI na v).length = (addI ma u).length
      rw [addI_sz, addI_sz, h1, hn]
    · rw [renT_var, map_pos h1 hf]
  | .var v, .fn a r b, na, nb, ma, mb, X, Y, hA, hB, hX, hY, hn, hm, h => by simp [tx] at h
  | .fn a r b, .base k, na, nb, ma, mb, X, Y, hA, hB, hX, hY, hn, hm, h => by
    have h1 : k = 0 ∨ k = 1 := by simpa [TT.ok] using hB
    rcases h1 with rfl | rfl <;> simp [tx] at h
  | .fn a r b, .var v, na, nb, ma, mb, X, Y, hA, hB, hX, hY, hn, hm, h => by simp [tx] at h
  | .fn a r b, .fn a' r' b', na, nb, ma, mb, X, Y, hA, hB, hX, hY, hn, hm, h => by
    unfold TT.ok at hA hB
    simp only [Bool.and_eq_true] at hA hB
    unfold tx at h
    simp only [List.cons_append, List.append_assoc, List.nil_append] at h
    injection h with _ h
    obtain ⟨h1, l1, l2, k1⟩ := tx_split a a' na nb ma mb _ _ hA.1.1 hB.1.1 (ends_cons (by decide)) (ends_cons (by decide)) hn hm h
    injection h1 with _ h1
    injection h1 with _ h1
    obtain ⟨h2, h3, h4, h5⟩ := rw_split hA.1.2 hB.1.2 h1
    injection h5 with _ h5
    have lT : (addT (rvs a nb) r.t).length = (addT (rvs a' mb) r'.t).length := by
      unfold addT
      by_cases ht : r.t < 0
      · rw [if_pos ht, if_pos (h3.1 ht)]; exact l2
      · rw [if_neg ht, if_neg (fun h => ht (h3.2 h)), addI_sz, addI_sz, h4 (by omega), l2]
    obtain ⟨h6, l3, l4, k2⟩ := tx_split b b' _ _ _ _ _ _ hA.2 hB.2 (ends_cons (by decide)) (ends_cons (by decide)) l1 lT h5
    injection h6 with _ h6
    refine ⟨h6, l3, l4, fun f g hf hg => ?_⟩
    have hf1 := pre_map (tvs_pre b (tvs a na)) (tvs_pre b' (tvs a' ma)) l1 hf
    have hg2 := pre_map (rvs_pre b (addT (rvs a nb) r.t)) (rvs_pre b' (addT (rvs a' mb) r'.t)) lT hg
    have hg1 := pre_map (addT_pre (rvs a nb) r.t) (addT_pre (rvs a' mb) r'.t) l2 hg2
    rw [renT_fn, k1 f g hf1 hg1, k2 f g hf hg]
    congr 1
    obtain ⟨ra, rb, rc, rd, rt⟩ := r
    obtain ⟨ra', rb', rc', rd', rt'⟩ := r'
    simp only at h2 h3 h4 hg2 ⊢
    obtain ⟨rfl, rfl, rfl, rfl⟩ := h2
    have hr1 := (may_tail hA.1.2).1
    have hr2 := (may_tail hB.1.2).1
    (try simp only at hr1 hr2)
    by_cases ht : rt < 0
    · rw [if_pos ht]
      have := h3.1 ht
      obtain rfl : rt = -1 := by omega
      obtain rfl : rt' = -1 := by omega
      rfl
    · rw [if_neg ht]
      unfold addT at hg2
      rw [if_neg ht, if_neg (fun h => ht (h3.2 h))] at hg2
      rw [map_pos (h4 (by omega)) hg2]
theorem ex_map : ∀ {l l' : List Int}, l.Nodup → l.length = l'.length → ∃ f : Int → Int, l.map f = l'
  | [], [], _, _ => ⟨id, rfl⟩
  | x :: l, y :: l', h, hl => by
    rw [List.nodup_cons] at h
    obtain ⟨f, hf⟩ := ex_map h.2 (by simpa using hl)
    refine ⟨fun z => if z = x then y else f z, ?_⟩
    rw [List.map_cons, if_pos rfl, ← hf]
    congr 1
    refine List.map_congr_left fun z hz => if_neg ?_
    rintro rfl
    exact h.1 hz
/-- types with one text are one but for names. -/
theorem tx_ren_of {A B : TT} (hA : A.ok = true) (hB : B.ok = true) (h : tx A [] [] = tx B [] []) : ∃ f g, renT f g A = B := by
  obtain ⟨_, l1, l2, k⟩ := tx_split A B [] [] [] [] [] [] hA hB ends_nil ends_nil rfl rfl (by rw [h])
  obtain ⟨f, hf⟩ := ex_map (tvs_nodup A List.nodup_nil) l1
  obtain ⟨g, hg⟩ := ex_map (rvs_nodup A List.nodup_nil) l2
  exact ⟨f, g, k f g hf hg⟩
theorem tx_fn (A : TT) (r : Rw) (B : TT) (a b : List Int) : tx (.fn A r B) a b = [40] ++ tx A a b ++ ([32, 45] ++ rwT r (Lib.itoa (posI (rvs A b) r.t : Nat)) ++ [32]) ++ tx B (tvs A a) (addT (rvs A b) r.t) ++ [41] := rfl
theorem tvs_fn (A : TT) (r : Rw) (B : TT) (a : List Int) : tvs (.fn A r B) a = tvs B (tvs A a) := rfl
theorem rvs_fn (A : TT) (r : Rw) (B : TT) (b : List Int) : rvs (.fn A r B) b = rvs B (addT (rvs A b) r.t) := rfl
theorem fi_map {f : Int → Int} {P : Int → Prop} (hf : ∀ x y, P x → P y → f x = f y → x = y) {v : Int} (hv : P v) : ∀ l : List Int, (∀ x ∈ l, P x) → (l.map f).findIdx (· == f v) = l.findIdx (· == v) ∧ hasI (l.map f) (f v) = hasI l v
  | [], _ => ⟨rfl, rfl⟩
  | x :: l, h => by
    obtain ⟨h1, h2⟩ := fi_map hf hv l fun y hy => h y (List.mem_cons_of_mem _ hy)
    have e : (f x == f v) = (x == v) := by
      by_cases e : x = v
      · subst e; simp
      · have : f x ≠ f v := fun h' => e (hf x v (h x (List.mem_cons_self ..)) hv h')
        rw [beq_eq_false_iff_ne.2 this, beq_eq_false_iff_ne.2 e]
    refine ⟨by rw [List.map_cons, List.findIdx_cons, List.findIdx_cons, h1, e], ?_⟩
    unfold hasI at h2 ⊢
    rw [List.map_cons, decide_eq_decide, List.mem_cons, List.mem_cons]
    rw [decide_eq_decide] at h2
    rw [h2]
    have : f v = f x ↔ v = x := ⟨fun h' => (hf x v (h x (List.mem_cons_self ..)) hv h'.symm).symm, fun h' => by rw [h']⟩
    rw [this]
theorem addI_map {f : Int → Int} {P : Int → Prop} (hf : ∀ x y, P x → P y → f x = f y → x = y) {v : Int} (hv : P v) {l : List Int} (hl : ∀ x ∈ l, P x) : addI (l.map f) (f v) = (addI l v).map f ∧ posI (l.map f) (f v) = posI l v ∧ ∀ x ∈ addI l v, P x := by
  have h1 : addI (l.map f) (f v) = (addI l v).map f := by
    unfold addI
    rw [(fi_map hf hv l hl).2]
    split
    · rfl
    · rw [List.map_append]; rfl
  have h2 : ∀ x ∈ addI l v, P x := fun x hx => by
    rcases (addI_mem l v x).1 hx with hx | rfl
    · exact hl x hx
    · exact hv
  refine ⟨h1, ?_, h2⟩
  unfold posI
  rw [h1]
  exact (fi_map hf hv _ h2).1
/-- a text doesn't tell names. -/
theorem tx_renT {f g : Int → Int} {P Q : Int → Prop} (hf : ∀ x y, P x → P y → f x = f y → x = y) (hg : ∀ x y, Q x → Q y → g x = g y → x = y) (hg0 : ∀ x, Q x → 0 ≤ g x) : ∀ (A : TT) (na nb : List Int), (∀ x ∈ na, P x) → (∀ x ∈ nb, Q x) → (∀ x, hasV A x → P x) → (∀ x, hasT A x → Q x) →
    tx (renT f g A) (na.map f) (nb.map g) = tx A na nb ∧ tvs (renT f g A) (na.map f) = (tvs A na).map f ∧ rvs (renT f g A) (nb.map g) = (rvs A nb).map g ∧ (∀ x ∈ tvs A na, P x) ∧ (∀ x ∈ rvs A nb, Q x)
  | .base k, na, nb, hna, hnb, hv, ht => ⟨rfl, rfl, rfl, hna, hnb⟩
  | .var v, na, nb, hna, hnb, hv, ht => by
    rw [renT_var]
    obtain ⟨h1, h2, h3⟩ := addI_map hf (hv v rfl) hna
    refine ⟨by unfold tx; rw [h2], h1, rfl, h3, hnb⟩
  | .fn a r b, na, nb, hna, hnb, hv, ht => by
    obtain ⟨h1, h2, h3, h4, h5⟩ := tx_renT hf hg hg0 a na nb hna hnb (fun x h => hv x (.inl h)) (fun x h => ht x (.inl h))
    rw [renT_fn]
    obtain ⟨r', hr'⟩ : ∃ r' : Rw, (if r.t < 0 then r else ⟨r.a, r.b, r.c, r.d, g r.t⟩) = r' := ⟨_, rfl⟩
    have hT : addT ((rvs a nb).map g) r'.t = (addT (rvs a nb) r.t).map g ∧ (∀ x ∈ addT (rvs a nb) r.t, Q x) ∧ rwT r' (Lib.itoa (posI ((rvs a nb).map g) r'.t : Nat)) = rwT r (Lib.itoa (posI (rvs a nb) r.t : Nat)) := by
      by_cases h : r.t < 0
      · rw [if_pos h] at hr'
        subst hr'
        unfold addT
        rw [if_pos h, if_pos h]
        refine ⟨rfl, h5, ?_⟩
        rw [rwT_eq, rwT_eq, if_neg (by omega), if_neg (by omega)]
      · rw [if_neg h] at hr'
        subst hr'
        have hq : Q r.t := ht r.t (.inr (.inl ⟨by omega, rfl⟩))
        have hq0 := hg0 _ hq
        obtain ⟨e1, e2, e3⟩ := addI_map hg hq h5
        unfold addT
        simp only
        rw [if_neg h, if_neg (by omega)]
        refine ⟨e1, e3, ?_⟩
        rw [e2, rwT_eq, rwT_eq]
        simp only
        rw [if_pos (by omega), if_pos (by omega)]
        rfl
    obtain ⟨t1, t2, t3⟩ := hT
    obtain ⟨k1, k2, k3, k4, k5⟩ := tx_renT hf hg hg0 b (tvs a na) (addT (rvs a nb) r.t) h4 t2 (fun x h => hv x (.inr h)) (fun x h => ht x (.inr (.inr h)))
    rw [hr']
    simp only [tx_fn, tvs_fn, rvs_fn]
    rw [h1, h2, h3, t1, t3, k1]
    exact ⟨rfl, k2, k3, k4, k5⟩
/-! What a match has met. -/
def MS.le (m m' : MS) : Prop := (∀ v U, m.s v = some U → m'.s v = some U) ∧ (∀ t q, m.r t = some q → m'.r t = some q)
def MS.nn (m : MS) : Prop := ∀ t q, m.r t = some q → 0 ≤ q.a ∧ 0 ≤ q.b ∧ 0 ≤ q.c ∧ 0 ≤ q.d
theorem MS.le_refl (m : MS) : m.le m := ⟨fun _ _ h => h, fun _ _ h => h⟩
theorem MS.le_trans {m m' m'' : MS} (h : m.le m') (h' : m'.le m'') : m.le m'' := ⟨fun v U k => h'.1 v U (h.1 v U k), fun t q k => h'.2 t q (h.2 t q k)⟩
theorem le_updS {m : MS} {v : Int} {x : TT} (h : m.s v = none) : m.le ⟨upd m.s v x, m.r⟩ := by
  refine ⟨fun u U k => ?_, fun _ _ h => h⟩
  show upd m.s v x u = _
  unfold upd
  by_cases e : u = v
  · subst e; rw [h] at k; cases k
  · rw [if_neg e]; exact k
theorem le_updR {m : MS} {v : Int} {x : Rw} (h : m.r v = none) : m.le ⟨m.s, upd m.r v x⟩ := by
  refine ⟨fun _ _ h => h, fun u U k => ?_⟩
  show upd m.r v x u = _
  unfold upd
  by_cases e : u = v
  · subst e; rw [h] at k; cases k
  · rw [if_neg e]; exact k
theorem mtR_put {g s : Rw} {m m' : MS} (h : mtR g s m = some m') (hn : m.nn) : m.le m' ∧ m'.nn ∧ (g.t < 0 ∨ ∃ q, m'.r g.t = some q) ∧ ∀ m'' : MS, m'.le m'' → putR m''.r g = s := by
  unfold mtR at h
  by_cases ht : g.t < 0
  · rw [if_pos ht] at h
    by_cases e : g = s
    · rw [if_pos e] at h; injection h with h; subst h
      exact ⟨m.le_refl, hn, .inl ht, fun _ _ => by unfold putR; rw [if_pos ht, e]⟩
    · rw [if_neg e] at h; cases h
  · rw [if_neg ht] at h
    by_cases hge : geR s g = true
    · rw [if_pos hge] at h
      have hge' := of_decide_eq_true (show decide (g.a ≤ s.a ∧ g.b ≤ s.b ∧ g.c ≤ s.c ∧ g.d ≤ s.d) = true from hge)
      have hp : ∀ m'' : MS, m''.r g.t = some (subRw s g) → putR m''.r g = s := by
        intro m'' hq
        unfold putR
        rw [if_neg ht, hq]
        obtain ⟨sa, sb, sc, sd, st⟩ := s
        simp only [subRw, Rw.mk.injEq, and_true]
        omega
      cases hq : m.r g.t with
      | none =>
        rw [hq] at h
        injection h with h; subst h
        refine ⟨le_updR hq, ?_, .inr ⟨subRw s g, ?_⟩, fun m'' hl => hp m'' (hl.2 _ _ ?_)⟩
        · intro t q hh
          simp only [upd] at hh
          by_cases e : t = g.t
          · rw [if_pos e] at hh; injection hh with hh; subst hh
            unfold subRw; simp only; omega
          · rw [if_neg e] at hh; exact hn t q hh
        · show upd m.r g.t _ g.t = _; unfold upd; rw [if_pos rfl]
        · show upd m.r g.t _ g.t = _; unfold upd; rw [if_pos rfl]
      | some q =>
        rw [hq] at h
        simp only at h
        by_cases e : q = subRw s g
        · rw [if_pos e] at h; injection h with h; subst h
          exact ⟨m.le_refl, hn, .inr ⟨q, hq⟩, fun m'' hl => hp m'' (hl.2 _ _ (e ▸ hq))⟩
        · rw [if_neg e] at h; cases h
    · rw [if_neg hge] at h; cases h
theorem mtT_put : ∀ (g s : TT) (m m' : MS), mtT g s m = some m' → m.nn → m.le m' ∧ m'.nn ∧ (∀ v, hasV g v → ∃ U, m'.s v = some U) ∧ (∀ t, hasT g t → ∃ q, m'.r t = some q) ∧ ∀ m'' : MS, m'.le m'' → putT m''.s m''.r g = s
  | .base k, s, m, m', h, hn => by
    unfold mtT at h
    by_cases e : s = .base k
    · rw [if_pos e] at h; injection h with h; subst h
      exact ⟨m.le_refl, hn, fun _ h => (by cases h), fun _ h => (by cases h), fun _ _ => by rw [e]; rfl⟩
    · rw [if_neg e] at h; cases h
  | .var v, s, m, m', h, hn => by
    unfold mtT at h
    cases hq : m.s v with
    | none =>
      rw [hq] at h
      injection h with h; subst h
      have hu : upd m.s v s v = some s := by unfold upd; rw [if_pos rfl]
      exact ⟨le_updS hq, hn, fun u hu' => ⟨s, by rw [show u = v from hu']; exact hu⟩, fun _ h => (by cases h), fun m'' hl => by show (m''.s v).getD _ = s; rw [hl.1 v s hu]; rfl⟩
    | some q =>
      rw [hq] at h
      simp only at h
      by_cases e : q = s
      · rw [if_pos e] at h; injection h with h; subst h
        subst e
        exact ⟨m.le_refl, hn, fun u hu' => ⟨q, by rw [show u = v from hu']; exact hq⟩, fun _ h => (by cases h), fun m'' hl => by show (m''.s v).getD _ = q; rw [hl.1 v q hq]; rfl⟩
      · rw [if_neg e] at h; cases h
  | .fn a r b, .base k, m, m', h, hn => by unfold mtT at h; cases h
  | .fn a r b, .var k, m, m', h, hn => by unfold mtT at h; cases h
  | .fn a r b, .fn a' r' b', m, m', h, hn => by
    unfold mtT at h
    cases h1 : mtT a a' m with
    | none => rw [h1] at h; cases h
    | some m1 =>
      rw [h1, Option.bind_some] at h
      cases h2 : mtR r r' m1 with
      | none => rw [h2] at h; cases h
      | some m2 =>
        rw [h2, Option.bind_some] at h
        obtain ⟨k1, n1, v1, t1, p1⟩ := mtT_put a a' m m1 h1 hn
        obtain ⟨k2, n2, v2, p2⟩ := mtR_put h2 n1
        obtain ⟨k3, n3, v3, t3, p3⟩ := mtT_put b b' m2 m' h n2
        refine ⟨MS.le_trans k1 (MS.le_trans k2 k3), n3, ?_, ?_, fun m'' hl => ?_⟩
        · rintro v (hv | hv)
          · obtain ⟨U, hU⟩ := v1 v hv
            exact ⟨U, k3.1 _ _ (k2.1 _ _ hU)⟩
          · exact v3 v hv
        · rintro t (hv | ⟨hv, rfl⟩ | hv)
          · obtain ⟨U, hU⟩ := t1 t hv
            exact ⟨U, k3.2 _ _ (k2.2 _ _ hU)⟩
          · rcases v2 with v2 | ⟨q, v2⟩
            · omega
            · exact ⟨q, k3.2 _ _ v2⟩
          · exact t3 t hv
        · show TT.fn _ _ _ = _
          rw [p1 m'' (MS.le_trans k2 (MS.le_trans k3 hl)), p2 m'' (MS.le_trans k3 hl), p3 m'' hl]
theorem put_self (τ : Int → Option TT) (π : Int → Option Rw) : ∀ A : TT, putT τ π A = A → (∀ v, hasV A v → τ v = none ∨ τ v = some (.var v)) ∧ (∀ t, hasT A t → π t = none ∨ π t = some ⟨0, 0, 0, 0, t⟩)
  | .base k, _ => ⟨fun _ h => (by cases h), fun _ h => (by cases h)⟩
  | .var v, h => by
    refine ⟨fun u hu => ?_, fun _ h => (by cases h)⟩
    obtain rfl : u = v := hu
    have h : (τ u).getD (.var u) = .var u := h
    cases hτ : τ u with
    | none => exact .inl rfl
    | some U => rw [hτ] at h; exact .inr (by rw [show U = .var u from h])
  | .fn a r b, h => by
    have h : TT.fn (putT τ π a) (putR π r) (putT τ π b) = .fn a r b := h
    injection h with ha hr hb
    obtain ⟨h1, h2⟩ := put_self τ π a ha
    obtain ⟨h3, h4⟩ := put_self τ π b hb
    refine ⟨fun v hv => hv.elim (h1 v) (h3 v), ?_⟩
    rintro t (ht | ⟨ht, rfl⟩ | ht)
    · exact h2 t ht
    · unfold putR at hr
      rw [if_neg (by omega)] at hr
      cases hπ : π r.t with
      | none => exact .inl rfl
      | some q =>
        rw [hπ] at hr
        right
        obtain ⟨ra, rb, rc, rd, rt⟩ := r
        obtain ⟨qa, qb, qc, qd, qt⟩ := q
        simp only [Rw.mk.injEq] at hr
        simp only [Option.some.injEq, Rw.mk.injEq]
        omega
    · exact h4 t ht
theorem put_var {σ : Int → Option TT} {ρ : Int → Option Rw} {U : TT} {v : Int} (h : putT σ ρ U = .var v) : ∃ u, U = .var u := by
  cases U with
  | base k => cases h
  | var u => exact ⟨u, rfl⟩
  | fn a r b => cases h
theorem hasT_pos : ∀ (A : TT) (t : Int), hasT A t → 0 ≤ t
  | .base _, _, h => by cases h
  | .var _, _, h => by cases h
  | .fn a r b, t, h => by
    rcases h with h | ⟨h, rfl⟩ | h
    · exact hasT_pos a t h
    · exact h
    · exact hasT_pos b t h
/-- instances of each other have one text. -/
theorem tx_of_both {A B : TT} (h1 : instT A B = true) (h2 : instT B A = true) : tx A [] [] = tx B [] [] := by
  unfold instT at h1 h2
  obtain ⟨m, h1⟩ := Option.isSome_iff_exists.1 h1
  obtain ⟨m', h2⟩ := Option.isSome_iff_exists.1 h2
  have n0 : MS.none.nn := fun _ _ h => by cases h
  obtain ⟨_, nn1, v1, t1, p1⟩ := mtT_put A B _ _ h1 n0
  obtain ⟨_, nn2, v2, t2, p2⟩ := mtT_put B A _ _ h2 n0
  have p1 := p1 m m.le_refl
  have p2 := p2 m' m'.le_refl
  have hs : putT (thenT m.s m'.s m'.r) (thenR m.r m'.r) A = A := by rw [← putT_then, p1, p2]
  obtain ⟨s1, s2⟩ := put_self _ _ A hs
  have hV : ∀ v, hasV A v → ∃ u, m.s v = some (.var u) ∧ putT m'.s m'.r (.var u) = .var v := by
    intro v hv
    obtain ⟨U, hU⟩ := v1 v hv
    have := s1 v hv
    unfold thenT at this
    rw [hU] at this
    simp only [Option.some.injEq, false_or, reduceCtorEq] at this
    obtain ⟨u, rfl⟩ := put_var this
    exact ⟨u, hU, this⟩
  have hT : ∀ t, hasT A t → 0 ≤ t ∧ ∃ u, 0 ≤ u ∧ m.r t = some ⟨0, 0, 0, 0, u⟩ ∧ putR m'.r ⟨0, 0, 0, 0, u⟩ = ⟨0, 0, 0, 0, t⟩ := by
    intro t ht
    have ht0 : 0 ≤ t := hasT_pos A t ht
    obtain ⟨q, hq⟩ := t1 t ht
    have hs2 := s2 t ht
    have hqn := nn1 t q hq
    unfold thenR at hs2
    rw [hq] at hs2
    simp only [Option.some.injEq, false_or, reduceCtorEq] at hs2
    have hz : q.a = 0 ∧ q.b = 0 ∧ q.c = 0 ∧ q.d = 0 ∧ 0 ≤ q.t := by
      unfold putR at hs2
      by_cases h : q.t < 0
      · rw [if_pos h] at hs2
        rw [hs2] at h; simp only at h; omega
      · rw [if_neg h] at hs2
        cases hr : m'.r q.t with
        | none =>
          rw [hr] at hs2
          obtain ⟨qa, qb, qc, qd, qt⟩ := q
          simp only [Rw.mk.injEq] at hs2 ⊢
          omega
        | some q' =>
          rw [hr] at hs2
          have := nn2 _ _ hr
          simp only [Rw.mk.injEq] at hs2
          omega
    obtain ⟨qa, qb, qc, qd, qt⟩ := q
    simp only at hz
    obtain ⟨rfl, rfl, rfl, rfl, hz⟩ := hz
    exact ⟨ht0, qt, hz, hq, hs2⟩
  obtain ⟨f, hf⟩ : ∃ f : Int → Int, ∀ v, hasV A v → m.s v = some (.var (f v)) ∧ putT m'.s m'.r (.var (f v)) = .var v :=
    ⟨fun v => match m.s v with | some (.var u) => u | _ => 0, fun v hv => by obtain ⟨u, h1, h2⟩ := hV v hv; simp only [h1]; exact ⟨trivial, h2⟩⟩
  obtain ⟨g, hg⟩ : ∃ g : Int → Int, ∀ t, hasT A t → 0 ≤ g t ∧ m.r t = some ⟨0, 0, 0, 0, g t⟩ ∧ putR m'.r ⟨0, 0, 0, 0, g t⟩ = ⟨0, 0, 0, 0, t⟩ :=
    ⟨fun t => match m.r t with | some q => q.t | none => 0, fun t ht => by obtain ⟨_, u, h0, h1, h2⟩ := hT t ht; simp only [h1]; exact ⟨h0, trivial, h2⟩⟩
  have e : renT f g A = B := by
    rw [← p1]
    unfold renT
    refine putT_on A (fun v hv => ?_) (fun t ht => ?_)
    · rw [(hf v hv).1]; rfl
    · rw [(hg t ht).2.1]; rfl
  have := (tx_renT (f := f) (g := g) (P := hasV A) (Q := hasT A) (fun x y hx hy h => by
      have h1 := (hf x hx).2
      rw [h, (hf y hy).2] at h1
      injection h1 with h1; exact h1.symm) (fun x y hx hy h => by
      have h1 := (hg x hx).2.2
      rw [h, (hg y hy).2.2] at h1
      injection h1 with _ _ _ _ h1; exact h1.symm) (fun x hx => (hg x hx).1) A [] [] (fun _ h => by cases h) (fun _ h => by cases h) (fun _ h => h) (fun _ h => h)).1
  rw [e] at this
  exact this.symm
theorem both_of_tx {A B : TT} (hA : A.ok = true) (hB : B.ok = true) (h : tx A [] [] = tx B [] []) : instT A B = true := by
  obtain ⟨f, g, rfl⟩ := tx_ren_of hA hB h
  exact instT_put _ _ (fun v q h => by unfold renR at h; injection h with h; subst h; simp) A
theorem both_iff {A B : TT} (hA : A.ok = true) (hB : B.ok = true) : (instT A B && instT B A) = decide (tx A [] [] = tx B [] []) := by
  by_cases h : tx A [] [] = tx B [] []
  · rw [decide_eq_true h, both_of_tx hA hB h, both_of_tx hB hA h.symm]; rfl
  · rw [decide_eq_false h]
    cases h1 : instT A B
    · rfl
    · cases h2 : instT B A
      · rfl
      · exact absurd (tx_of_both h1 h2) h
theorem instT_self (A : TT) : instT A A = true := by
  have := instT_put (fun _ => none) (fun _ => none) (fun _ _ h => by cases h) A
  rwa [putT_id _ _ _ (fun _ => rfl) (fun _ => rfl)] at this
end Go.Proofs.YtdganhamafhfdaaDoor
