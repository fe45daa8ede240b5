/- The parts of a named tree, as a tree; what is printed of them. Plain. -/
import Derived.Test.YtidlljookjicpaaGreatDoorNaD
import Derived.Test.YtidlljookjicpaaGreatDoorNdCo
import Derived.Test.YtidlljookjicpaaGreatDoorNaH
import Derived.Test.YtidlljookjicpaaGreatDoorNmA
import Derived.Test.YtidlljookjicpaaGreatDoorSg
namespace Go.Proofs.YtidlljookjicpaaGreatDoor
open Go.RowKit
set_option linter.unusedVariables false
set_option linter.unusedSimpArgs false

/-- a part. -/
inductive PT
  | var (nm : ByteArray) | int (n : Int) | bol (n : Int)
  | fn (x : ByteArray) (a : PT) | app (a b : PT) | lt (x : ByteArray) (a b : PT) | rc (x y : ByteArray) (a b : PT)
  | cd (a b c : PT) | pr (n : Int) (a b : PT) | ac (nm : ByteArray) (a : PT) | hn (nm x y z : ByteArray) (a b c : PT)
def PT.sz : PT → Nat
  | .var _ => 1 | .int _ => 1 | .bol _ => 1
  | .fn _ a => a.sz + 1 | .app a b => a.sz + b.sz + 1 | .lt _ a b => a.sz + b.sz + 1 | .rc _ _ a b => a.sz + b.sz + 1
  | .cd a b c => a.sz + b.sz + c.sz + 1 | .pr _ a b => a.sz + b.sz + 1 | .ac _ a => a.sz + 1 | .hn _ _ _ _ a b c => a.sz + b.sz + c.sz + 1
/-- names and numbers may be. -/
def PT.ok : PT → Prop
  | .var nm => nmB nm.data.toList = true | .int n => 0 ≤ n ∧ n ≤ 1073741823 | .bol n => n = 0 ∨ n = 1
  | .fn x a => nmB x.data.toList = true ∧ a.ok | .app a b => a.ok ∧ b.ok | .lt x a b => nmB x.data.toList = true ∧ a.ok ∧ b.ok
  | .rc x y a b => (nmB x.data.toList = true ∧ nmB y.data.toList = true) ∧ a.ok ∧ b.ok
  | .cd a b c => a.ok ∧ b.ok ∧ c.ok | .pr n a b => (0 ≤ n ∧ n ≤ 5) ∧ a.ok ∧ b.ok | .ac nm a => nmB nm.data.toList = true ∧ a.ok
  | .hn nm x y z a b c => (nmB nm.data.toList = true ∧ nmB x.data.toList = true ∧ nmB y.data.toList = true ∧ nmB z.data.toList = true) ∧ a.ok ∧ b.ok ∧ c.ok
/-- the part stands in the row, its root at i. -/
def PT.At (ts : List Nd) : PT → Nat → Prop
  | .var nm, i => ∃ p, ts.getD i nd0 = ⟨0, 0, 0, 0, 0, nm, ⟨#[]⟩, ⟨#[]⟩, ⟨#[]⟩, p⟩
  | .int n, i => ∃ p, ts.getD i nd0 = ⟨1, 0, 0, 0, n, ⟨#[]⟩, ⟨#[]⟩, ⟨#[]⟩, ⟨#[]⟩, p⟩
  | .bol n, i => ∃ p, ts.getD i nd0 = ⟨2, 0, 0, 0, n, ⟨#[]⟩, ⟨#[]⟩, ⟨#[]⟩, ⟨#[]⟩, p⟩
  | .fn x a, i => ∃ (j : Nat) (p : Int), i = j + 1 ∧ ts.getD i nd0 = ⟨3, j, 0, 0, 0, ⟨#[]⟩, x, ⟨#[]⟩, ⟨#[]⟩, p⟩ ∧ a.At ts j
  | .app a b, i => ∃ (j k : Nat) (p : Int), i = k + 1 ∧ k = j + b.sz ∧ ts.getD i nd0 = ⟨4, j, k, 0, 0, ⟨#[]⟩, ⟨#[]⟩, ⟨#[]⟩, ⟨#[]⟩, p⟩ ∧ a.At ts j ∧ b.At ts k
  | .lt x a b, i => ∃ (j k : Nat) (p : Int), i = k + 1 ∧ k = j + b.sz ∧ ts.getD i nd0 = ⟨5, j, k, 0, 0, ⟨#[]⟩, x, ⟨#[]⟩, ⟨#[]⟩, p⟩ ∧ a.At ts j ∧ b.At ts k
  | .rc x y a b, i => ∃ (j k : Nat) (p : Int), i = k + 1 ∧ k = j + b.sz ∧ ts.getD i nd0 = ⟨6, j, k, 0, 0, ⟨#[]⟩, x, y, ⟨#[]⟩, p⟩ ∧ a.At ts j ∧ b.At ts k
  | .cd a b c, i => ∃ (j k m : Nat) (p : Int), i = m + 1 ∧ m = k + c.sz ∧ k = j + b.sz ∧ ts.getD i nd0 = ⟨7, j, k, m, 0, ⟨#[]⟩, ⟨#[]⟩, ⟨#[]⟩, ⟨#[]⟩, p⟩ ∧ a.At ts j ∧ b.At ts k ∧ c.At ts m
  | .pr n a b, i => ∃ (j k : Nat) (p : Int), i = k + 1 ∧ k = j + b.sz ∧ ts.getD i nd0 = ⟨8, j, k, 0, n, ⟨#[]⟩, ⟨#[]⟩, ⟨#[]⟩, ⟨#[]⟩, p⟩ ∧ a.At ts j ∧ b.At ts k
  | .ac nm a, i => ∃ (j : Nat) (p : Int), i = j + 1 ∧ ts.getD i nd0 = ⟨9, j, 0, 0, 0, nm, ⟨#[]⟩, ⟨#[]⟩, ⟨#[]⟩, p⟩ ∧ a.At ts j
  | .hn nm x y z a b c, i => ∃ (j k m : Nat) (p : Int), i = m + 1 ∧ m = k + c.sz ∧ k = j + b.sz ∧ ts.getD i nd0 = ⟨10, j, k, m, 0, nm, x, y, z, p⟩ ∧ a.At ts j ∧ b.At ts k ∧ c.At ts m
theorem PT.sz1 (T : PT) : 1 ≤ T.sz := by cases T <;> simp [PT.sz]
theorem PT.At.sz {ts : List Nd} : ∀ {T : PT} {i : Nat}, T.At ts i → T.sz ≤ i + 1
  | .var _, i, _ => by simp [PT.sz]
  | .int _, i, _ => by simp [PT.sz]
  | .bol _, i, _ => by simp [PT.sz]
  | .fn x a, i, h => by obtain ⟨j, p, rfl, _, ha⟩ := h; have := ha.sz; simp only [PT.sz]; omega
  | .app a b, i, h => by obtain ⟨j, k, p, rfl, rfl, _, ha, hb⟩ := h; have := ha.sz; simp only [PT.sz]; omega
  | .lt x a b, i, h => by obtain ⟨j, k, p, rfl, rfl, _, ha, hb⟩ := h; have := ha.sz; simp only [PT.sz]; omega
  | .rc x y a b, i, h => by obtain ⟨j, k, p, rfl, rfl, _, ha, hb⟩ := h; have := ha.sz; simp only [PT.sz]; omega
  | .cd a b c, i, h => by obtain ⟨j, k, m, p, rfl, rfl, rfl, _, ha, hb⟩ := h; have := ha.sz; simp only [PT.sz]; omega
  | .pr n a b, i, h => by obtain ⟨j, k, p, rfl, rfl, _, ha, hb⟩ := h; have := ha.sz; simp only [PT.sz]; omega
  | .ac nm a, i, h => by obtain ⟨j, p, rfl, _, ha⟩ := h; have := ha.sz; simp only [PT.sz]; omega
  | .hn nm x y z a b c, i, h => by obtain ⟨j, k, m, p, rfl, rfl, rfl, _, ha, hb⟩ := h; have := ha.sz; simp only [PT.sz]; omega

/- That a tree's row holds a part at every place. -/
theorem eB {x : ByteArray} (h : x.data.toList = []) : x = ⟨#[]⟩ := by
  obtain ⟨⟨l⟩⟩ := x
  have h : l = [] := h
  rw [h]
def nmOk (x : ByteArray) : Prop := nmB x.data.toList = true
theorem nd_kinds {t : Nd} (h : okNd (okNm true) t = true) :
    (∃ nm p, t = ⟨0, 0, 0, 0, 0, nm, ⟨#[]⟩, ⟨#[]⟩, ⟨#[]⟩, p⟩ ∧ nmOk nm) ∨ (∃ n p, t = ⟨1, 0, 0, 0, n, ⟨#[]⟩, ⟨#[]⟩, ⟨#[]⟩, ⟨#[]⟩, p⟩ ∧ 0 ≤ n ∧ n ≤ 1073741823) ∨ (∃ n p, t = ⟨2, 0, 0, 0, n, ⟨#[]⟩, ⟨#[]⟩, ⟨#[]⟩, ⟨#[]⟩, p⟩ ∧ (n = 0 ∨ n = 1)) ∨
    (∃ a x p, t = ⟨3, a, 0, 0, 0, ⟨#[]⟩, x, ⟨#[]⟩, ⟨#[]⟩, p⟩ ∧ nmOk x) ∨ (∃ a b p, t = ⟨4, a, b, 0, 0, ⟨#[]⟩, ⟨#[]⟩, ⟨#[]⟩, ⟨#[]⟩, p⟩) ∨ (∃ a b x p, t = ⟨5, a, b, 0, 0, ⟨#[]⟩, x, ⟨#[]⟩, ⟨#[]⟩, p⟩ ∧ nmOk x) ∨
    (∃ a b x y p, t = ⟨6, a, b, 0, 0, ⟨#[]⟩, x, y, ⟨#[]⟩, p⟩ ∧ nmOk x ∧ nmOk y) ∨ (∃ a b c p, t = ⟨7, a, b, c, 0, ⟨#[]⟩, ⟨#[]⟩, ⟨#[]⟩, ⟨#[]⟩, p⟩) ∨ (∃ a b n p, t = ⟨8, a, b, 0, n, ⟨#[]⟩, ⟨#[]⟩, ⟨#[]⟩, ⟨#[]⟩, p⟩ ∧ 0 ≤ n ∧ n ≤ 5) ∨
    (∃ a nm p, t = ⟨9, a, 0, 0, 0, nm, ⟨#[]⟩, ⟨#[]⟩, ⟨#[]⟩, p⟩ ∧ nmOk nm) ∨ (∃ a b c nm x y z p, t = ⟨10, a, b, c, 0, nm, x, y, z, p⟩ ∧ nmOk nm ∧ nmOk x ∧ nmOk y ∧ nmOk z) := by
  unfold okNd okNm at h
  rw [plain_c] at h
  simp only [Bool.and_eq_true, if_true] at h
  obtain ⟨⟨⟨⟨hp, _⟩, _⟩, hu⟩, hn⟩ := h
  obtain ⟨k, a, b, c, n, nm, x, y, z, p⟩ := t
  dsimp only at hp hn hu
  unfold namedB at hn
  rw [Bool.and_eq_true] at hn
  obtain ⟨hz, hn⟩ := hn
  unfold plainC at hp
  unfold numB at hu
  by_cases h0 : k = 0
  · subst h0
    rw [if_pos rfl, decide_eq_true_eq] at hp
    have hn : [nm].all (fun s => nmB s.data.toList) = true := hn
    have hz : decide (n = 0) = true := hz
    rw [decide_eq_true_eq] at hz
    rw [List.all_cons, Bool.and_eq_true] at hn
    obtain ⟨rfl, rfl, rfl, e1, e2, e3⟩ := hp
    subst hz
    rw [eB e1, eB e2, eB e3]
    exact .inl ⟨nm, p, rfl, hn.1⟩
  rw [if_neg h0] at hp
  by_cases h1 : k = 1 ∨ k = 2
  · rw [if_pos h1, decide_eq_true_eq] at hp
    obtain ⟨rfl, rfl, rfl, e1, e2, e3, e4⟩ := hp
    rw [eB e1, eB e2, eB e3, eB e4]
    rcases h1 with rfl | rfl
    · have hu : decide (0 ≤ n ∧ n ≤ 1073741823) = true := hu
      rw [decide_eq_true_eq] at hu
      exact .inr (.inl ⟨n, p, rfl, hu⟩)
    · have hu : decide (n = 0 ∨ n = 1) = true := hu
      rw [decide_eq_true_eq] at hu
      exact .inr (.inr (.inl ⟨n, p, rfl, hu⟩))
  rw [if_neg h1] at hp
  by_cases h3 : k = 3
  · subst h3
    rw [if_pos rfl, decide_eq_true_eq] at hp
    have hn : [x].all (fun s => nmB s.data.toList) = true := hn
    rw [List.all_cons, Bool.and_eq_true] at hn
    obtain ⟨rfl, rfl, rfl, e1, e2, e3⟩ := hp
    rw [eB e1, eB e2, eB e3]
    exact .inr (.inr (.inr (.inl ⟨a, x, p, rfl, hn.1⟩)))
  rw [if_neg h3] at hp
  by_cases h4 : k = 4
  · subst h4
    rw [if_pos rfl, decide_eq_true_eq] at hp
    obtain ⟨rfl, rfl, e1, e2, e3, e4⟩ := hp
    rw [eB e1, eB e2, eB e3, eB e4]
    exact .inr (.inr (.inr (.inr (.inl ⟨a, b, p, rfl⟩))))
  rw [if_neg h4] at hp
  by_cases h5 : k = 5
  · subst h5
    rw [if_pos rfl, decide_eq_true_eq] at hp
    have hn : [x].all (fun s => nmB s.data.toList) = true := hn
    rw [List.all_cons, Bool.and_eq_true] at hn
    obtain ⟨rfl, rfl, e1, e2, e3⟩ := hp
    rw [eB e1, eB e2, eB e3]
    exact .inr (.inr (.inr (.inr (.inr (.inl ⟨a, b, x, p, rfl, hn.1⟩)))))
  rw [if_neg h5] at hp
  by_cases h6 : k = 6
  · subst h6
    rw [if_pos rfl, decide_eq_true_eq] at hp
    have hn : [x, y].all (fun s => nmB s.data.toList) = true := hn
    rw [List.all_cons, List.all_cons, Bool.and_eq_true, Bool.and_eq_true] at hn
    obtain ⟨rfl, rfl, e1, e2⟩ := hp
    rw [eB e1, eB e2]
    exact .inr (.inr (.inr (.inr (.inr (.inr (.inl ⟨a, b, x, y, p, rfl, hn.1, hn.2.1⟩))))))
  rw [if_neg h6] at hp
  by_cases h7 : k = 7
  · subst h7
    rw [if_pos rfl, decide_eq_true_eq] at hp
    obtain ⟨rfl, e1, e2, e3, e4⟩ := hp
    rw [eB e1, eB e2, eB e3, eB e4]
    exact .inr (.inr (.inr (.inr (.inr (.inr (.inr (.inl ⟨a, b, c, p, rfl⟩)))))))
  rw [if_neg h7] at hp
  by_cases h8 : k = 8
  · subst h8
    rw [if_pos rfl, decide_eq_true_eq] at hp
    have hu : decide (0 ≤ n ∧ n ≤ 5) = true := hu
    rw [decide_eq_true_eq] at hu
    obtain ⟨rfl, e1, e2, e3, e4⟩ := hp
    rw [eB e1, eB e2, eB e3, eB e4]
    exact .inr (.inr (.inr (.inr (.inr (.inr (.inr (.inr (.inl ⟨a, b, n, p, rfl, hu⟩))))))))
  rw [if_neg h8] at hp
  by_cases h9 : k = 9
  · subst h9
    rw [if_pos rfl, decide_eq_true_eq] at hp
    have hn : [nm].all (fun s => nmB s.data.toList) = true := hn
    have hz : decide (n = 0) = true := hz
    rw [decide_eq_true_eq] at hz
    rw [List.all_cons, Bool.and_eq_true] at hn
    obtain ⟨rfl, rfl, e1, e2, e3⟩ := hp
    subst hz
    rw [eB e1, eB e2, eB e3]
    exact .inr (.inr (.inr (.inr (.inr (.inr (.inr (.inr (.inr (.inl ⟨a, nm, p, rfl, hn.1⟩)))))))))
  rw [if_neg h9, decide_eq_true_eq] at hp
  subst hp
  have hn : [nm, x, y, z].all (fun s => nmB s.data.toList) = true := hn
  have hz : decide (n = 0) = true := hz
  rw [decide_eq_true_eq] at hz
  subst hz
  simp only [List.all_cons, Bool.and_eq_true] at hn
  exact .inr (.inr (.inr (.inr (.inr (.inr (.inr (.inr (.inr (.inr ⟨a, b, c, nm, x, y, z, p, rfl, hn.1, hn.2.1, hn.2.2.1, hn.2.2.2.1⟩)))))))))
theorem at_of (ts : List Nd) (hok : ∀ i, i < ts.length → okNd (okNm true) (ts.getD i nd0) = true) : ∀ (n i : Nat), i < n → i < ts.length → 0 ≤ bg (ksN ts) i → ∃ T : PT, T.At ts i ∧ T.ok ∧ (T.sz : Int) = i + 1 - bg (ksN ts) i := by
  intro n
  induction n with
  | zero => intro i h; omega
  | succ n ih =>
    intro i hn hi hb
    have hs := seg_bg (ksN ts) i hb
    have hkid := kid_ok (ksN ts) i hb
    have ihc : ∀ c : Int, c ∈ ksN ts i → ∃ (j : Nat) (T : PT), c = j ∧ j < i ∧ T.At ts j ∧ T.ok ∧ (T.sz : Int) = j + 1 - bg (ksN ts) j := fun c hc => by
      obtain ⟨c0, c1, c2⟩ := hkid c hc
      obtain ⟨j, rfl⟩ := Int.eq_ofNat_of_zero_le c0
      obtain ⟨T, h1, h2, h3⟩ := ih j (by omega) (by omega) c2
      exact ⟨j, T, rfl, by omega, h1, h2, h3⟩
    have e : ksN ts i = kidsL (ts.getD i nd0).k (ts.getD i nd0).a (ts.getD i nd0).b (ts.getD i nd0).c := rfl
    rcases nd_kinds (hok i hi) with ⟨nm, p, ht, h1⟩ | ⟨m, p, ht, h1⟩ | ⟨m, p, ht, h1⟩ | ⟨a, x, p, ht, h1⟩ | ⟨a, b, p, ht⟩ | ⟨a, b, x, p, ht, h1⟩ | ⟨a, b, x, y, p, ht, h1, h2⟩ | ⟨a, b, c, p, ht⟩ | ⟨a, b, m, p, ht, h1⟩ | ⟨a, nm, p, ht, h1⟩ | ⟨a, b, c, nm, x, y, z, p, ht, h1, h2, h3, h4⟩
    · have e : ksN ts i = [] := by rw [e, ht]; rfl
      rw [e] at hs
      have hs : bg (ksN ts) i = (i : Int) := hs
      exact ⟨.var nm, ⟨p, ht⟩, h1, by show ((1 : Nat) : Int) = _; omega⟩
    · have e : ksN ts i = [] := by rw [e, ht]; rfl
      rw [e] at hs
      have hs : bg (ksN ts) i = (i : Int) := hs
      exact ⟨.int m, ⟨p, ht⟩, h1, by show ((1 : Nat) : Int) = _; omega⟩
    · have e : ksN ts i = [] := by rw [e, ht]; rfl
      rw [e] at hs
      have hs : bg (ksN ts) i = (i : Int) := hs
      exact ⟨.bol m, ⟨p, ht⟩, h1, by show ((1 : Nat) : Int) = _; omega⟩
    · have e : ksN ts i = [a] := by rw [e, ht]; rfl
      rw [e] at hs ihc
      obtain ⟨j, A, rfl, hj, a1, a2, a3⟩ := ihc a (by simp)
      obtain ⟨_, s1, s2⟩ := hs
      have s2 : (j : Int) + 1 = (i : Int) := s2
      have s1 : bg (ksN ts) j = bg (ksN ts) i := s1
      exact ⟨.fn x A, ⟨j, p, by omega, ht, a1⟩, ⟨h1, a2⟩, by show ((A.sz + 1 : Nat) : Int) = _; omega⟩
    · have e : ksN ts i = [a, b] := by rw [e, ht]; rfl
      rw [e] at hs ihc
      obtain ⟨j, A, rfl, hj, a1, a2, a3⟩ := ihc a (by simp)
      obtain ⟨k, B, rfl, hk, b1, b2, b3⟩ := ihc b (by simp)
      obtain ⟨_, s1, _, s2, s3⟩ := hs
      have s1 : bg (ksN ts) j = bg (ksN ts) i := s1
      have s2 : bg (ksN ts) k = (j : Int) + 1 := s2
      have s3 : (k : Int) + 1 = (i : Int) := s3
      exact ⟨.app A B, ⟨j, k, p, by omega, by omega, ht, a1, b1⟩, ⟨a2, b2⟩, by show ((A.sz + B.sz + 1 : Nat) : Int) = _; omega⟩
    · have e : ksN ts i = [a, b] := by rw [e, ht]; rfl
      rw [e] at hs ihc
      obtain ⟨j, A, rfl, hj, a1, a2, a3⟩ := ihc a (by simp)
      obtain ⟨k, B, rfl, hk, b1, b2, b3⟩ := ihc b (by simp)
      obtain ⟨_, s1, _, s2, s3⟩ := hs
      have s1 : bg (ksN ts) j = bg (ksN ts) i := s1
      have s2 : bg (ksN ts) k = (j : Int) + 1 := s2
      have s3 : (k : Int) + 1 = (i : Int) := s3
      exact ⟨.lt x A B, ⟨j, k, p, by omega, by omega, ht, a1, b1⟩, ⟨h1, a2, b2⟩, by show ((A.sz + B.sz + 1 : Nat) : Int) = _; omega⟩
    · have e : ksN ts i = [a, b] := by rw [e, ht]; rfl
      rw [e] at hs ihc
      obtain ⟨j, A, rfl, hj, a1, a2, a3⟩ := ihc a (by simp)
      obtain ⟨k, B, rfl, hk, b1, b2, b3⟩ := ihc b (by simp)
      obtain ⟨_, s1, _, s2, s3⟩ := hs
      have s1 : bg (ksN ts) j = bg (ksN ts) i := s1
      have s2 : bg (ksN ts) k = (j : Int) + 1 := s2
      have s3 : (k : Int) + 1 = (i : Int) := s3
      exact ⟨.rc x y A B, ⟨j, k, p, by omega, by omega, ht, a1, b1⟩, ⟨⟨h1, h2⟩, a2, b2⟩, by show ((A.sz + B.sz + 1 : Nat) : Int) = _; omega⟩
    · have e : ksN ts i = [a, b, c] := by rw [e, ht]; rfl
      rw [e] at hs ihc
      obtain ⟨j, A, rfl, hj, a1, a2, a3⟩ := ihc a (by simp)
      obtain ⟨k, B, rfl, hk, b1, b2, b3⟩ := ihc b (by simp)
      obtain ⟨m, C, rfl, hm, c1, c2, c3⟩ := ihc c (by simp)
      obtain ⟨_, s1, _, s2, _, s3, s4⟩ := hs
      have s1 : bg (ksN ts) j = bg (ksN ts) i := s1
      have s2 : bg (ksN ts) k = (j : Int) + 1 := s2
      have s3 : bg (ksN ts) m = (k : Int) + 1 := s3
      have s4 : (m : Int) + 1 = (i : Int) := s4
      exact ⟨.cd A B C, ⟨j, k, m, p, by omega, by omega, by omega, ht, a1, b1, c1⟩, ⟨a2, b2, c2⟩, by show ((A.sz + B.sz + C.sz + 1 : Nat) : Int) = _; omega⟩
    · have e : ksN ts i = [a, b] := by rw [e, ht]; rfl
      rw [e] at hs ihc
      obtain ⟨j, A, rfl, hj, a1, a2, a3⟩ := ihc a (by simp)
      obtain ⟨k, B, rfl, hk, b1, b2, b3⟩ := ihc b (by simp)
      obtain ⟨_, s1, _, s2, s3⟩ := hs
      have s1 : bg (ksN ts) j = bg (ksN ts) i := s1
      have s2 : bg (ksN ts) k = (j : Int) + 1 := s2
      have s3 : (k : Int) + 1 = (i : Int) := s3
      exact ⟨.pr m A B, ⟨j, k, p, by omega, by omega, ht, a1, b1⟩, ⟨h1, a2, b2⟩, by show ((A.sz + B.sz + 1 : Nat) : Int) = _; omega⟩
    · have e : ksN ts i = [a] := by rw [e, ht]; rfl
      rw [e] at hs ihc
      obtain ⟨j, A, rfl, hj, a1, a2, a3⟩ := ihc a (by simp)
      obtain ⟨_, s1, s2⟩ := hs
      have s2 : (j : Int) + 1 = (i : Int) := s2
      have s1 : bg (ksN ts) j = bg (ksN ts) i := s1
      exact ⟨.ac nm A, ⟨j, p, by omega, ht, a1⟩, ⟨h1, a2⟩, by show ((A.sz + 1 : Nat) : Int) = _; omega⟩
    · have e : ksN ts i = [a, b, c] := by rw [e, ht]; rfl
      rw [e] at hs ihc
      obtain ⟨j, A, rfl, hj, a1, a2, a3⟩ := ihc a (by simp)
      obtain ⟨k, B, rfl, hk, b1, b2, b3⟩ := ihc b (by simp)
      obtain ⟨m, C, rfl, hm, c1, c2, c3⟩ := ihc c (by simp)
      obtain ⟨_, s1, _, s2, _, s3, s4⟩ := hs
      have s1 : bg (ksN ts) j = bg (ksN ts) i := s1
      have s2 : bg (ksN ts) k = (j : Int) + 1 := s2
      have s3 : bg (ksN ts) m = (k : Int) + 1 := s3
      have s4 : (m : Int) + 1 = (i : Int) := s4
      exact ⟨.hn nm x y z A B C, ⟨j, k, m, p, by omega, by omega, by omega, ht, a1, b1, c1⟩, ⟨⟨h1, h2, h3, h4⟩, a2, b2, c2⟩, by show ((A.sz + B.sz + C.sz + 1 : Nat) : Int) = _; omega⟩

/- What is printed. -/
/-- is no bracket wanted? -/
def PT.atm : PT → Bool
  | .var _ => true | .int _ => true | .bol _ => true | .hn _ _ _ _ _ _ _ => true | _ => false
def sgT (n : Int) : List UInt8 := if n = 0 then [32, 43, 32] else if n = 1 then [32, 45, 32] else if n = 2 then [32, 42, 32] else if n = 3 then [32, 47, 32] else if n = 4 then [32, 61, 61, 32] else [32, 60, 32]
def brS (b : Bool) (l : List UInt8) : List UInt8 := if b then l else 40 :: (l ++ [41])
def PT.tx : PT → List UInt8
  | .var nm => nm.data.toList
  | .int n => Lib.itoa n
  | .bol n => if n = 1 then [116, 114, 117, 101] else [102, 97, 108, 115, 101]
  | .fn x a => [102, 117, 110, 32] ++ x.data.toList ++ [32, 45, 62, 32] ++ a.tx
  | .app a b => brS a.atm a.tx ++ [32] ++ brS b.atm b.tx
  | .lt x a b => [108, 101, 116, 32] ++ x.data.toList ++ [32, 61, 32] ++ a.tx ++ [32, 105, 110, 32] ++ b.tx
  | .rc x y a b => [108, 101, 116, 32] ++ ([114, 101, 99, 32] ++ x.data.toList ++ [32] ++ y.data.toList) ++ [32, 61, 32] ++ a.tx ++ [32, 105, 110, 32] ++ b.tx
  | .cd a b c => [105, 102, 32] ++ a.tx ++ [32, 116, 104, 101, 110, 32] ++ b.tx ++ [32, 101, 108, 115, 101, 32] ++ c.tx
  | .pr n a b => brS a.atm a.tx ++ sgT n ++ brS b.atm b.tx
  | .ac nm a => [100, 111, 32] ++ nm.data.toList ++ [32] ++ brS a.atm a.tx
  | .hn nm x y z a b c => [104, 97, 110, 100, 108, 101, 32] ++ a.tx ++ ([32, 119, 105, 116, 104, 32] ++ nm.data.toList ++ [32] ++ x.data.toList ++ [32] ++ y.data.toList ++ [32, 45, 62, 32]) ++ b.tx ++ ([32, 114, 101, 116, 117, 114, 110, 32] ++ z.data.toList ++ [32, 45, 62, 32]) ++ c.tx ++ [32, 101, 110, 100]
/-- how many expressions stand within one another below the root. -/
def PT.ins : PT → Nat
  | .var _ => 0 | .int _ => 0 | .bol _ => 0
  | .fn _ a => a.ins + 1
  | .app a b => max (if a.atm then a.ins else a.ins + 1) (if b.atm then b.ins else b.ins + 1)
  | .lt _ a b => max (a.ins + 1) (b.ins + 1)
  | .rc _ _ a b => max (a.ins + 1) (b.ins + 1)
  | .cd a b c => max (max (a.ins + 1) (b.ins + 1)) (c.ins + 1)
  | .pr _ a b => max (if a.atm then a.ins else a.ins + 1) (if b.atm then b.ins else b.ins + 1)
  | .ac _ a => if a.atm then a.ins else a.ins + 1
  | .hn _ _ _ _ a b c => max (max (a.ins + 1) (b.ins + 1)) (c.ins + 1)
def sdD (a : PT) : Nat := if a.atm then a.ins else a.ins + 1
theorem nm_len {x : ByteArray} (h : nmB x.data.toList = true) : x.data.toList.length ≤ 16 := by
  unfold nmB at h
  simp only [Bool.and_eq_true, decide_eq_true_eq] at h
  exact h.1.1
theorem sgT_len (n : Int) : (sgT n).length ≤ 4 := by
  unfold sgT
  repeat' split
  all_goals simp
theorem brS_len (b : Bool) (l : List UInt8) : (brS b l).length ≤ l.length + 2 := by
  unfold brS; split
  · omega
  · simp
theorem ddl30 : ∀ (k u : Nat), 1 ≤ k → u < 10 ^ k → (Lib.decDigits u).length ≤ k := by
  intro k
  induction k with
  | zero => intro u h; omega
  | succ k ih =>
    intro u _ hu
    rw [Lib.decDigits]
    by_cases h10 : u < 10
    · rw [dif_pos h10]; simp
    · rw [dif_neg h10, List.length_append]
      have hk : 1 ≤ k := by
        rcases Nat.eq_zero_or_pos k with h | h
        · subst h; simp at hu; omega
        · exact h
      have := ih (u / 10) hk (by rw [Nat.pow_succ] at hu; omega)
      simp; omega
theorem itoa_l30 {n : Int} (h0 : 0 ≤ n) (h1 : n ≤ 1073741823) : (Lib.itoa n).length ≤ 30 := by
  have h2 : n.toNat < 10 ^ 10 := by have : (1073741824 : Nat) < 10 ^ 10 := by decide
                                    omega
  unfold Lib.itoa
  rw [if_neg (by omega)]
  have := ddl30 10 n.toNat (by decide) h2
  omega
theorem PT.tx_len : ∀ (T : PT), T.ok → T.tx.length ≤ T.sz * 150
  | .var nm, h => by have := nm_len h; show nm.data.toList.length ≤ 1 * 150; omega
  | .int n, h => by have := itoa_l30 h.1 h.2; show (Lib.itoa n).length ≤ 1 * 150; omega
  | .bol n, h => by simp only [PT.tx, PT.sz]; split <;> simp
  | .fn x a, h => by have := nm_len h.1; have := a.tx_len h.2; simp only [PT.tx, PT.sz, List.length_append, List.length_cons, List.length_nil]; omega
  | .app a b, h => by have := a.tx_len h.1; have := b.tx_len h.2; have := brS_len a.atm a.tx; have := brS_len b.atm b.tx; simp only [PT.tx, PT.sz, List.length_append, List.length_cons, List.length_nil]; omega
  | .lt x a b, h => by have := nm_len h.1; have := a.tx_len h.2.1; have := b.tx_len h.2.2; simp only [PT.tx, PT.sz, List.length_append, List.length_cons, List.length_nil]; omega
  | .rc x y a b, h => by have := nm_len h.1.1; have := nm_len h.1.2; have := a.tx_len h.2.1; have := b.tx_len h.2.2; simp only [PT.tx, PT.sz, List.length_append, List.length_cons, List.length_nil]; omega
  | .cd a b c, h => by have := a.tx_len h.1; have := b.tx_len h.2.1; have := c.tx_len h.2.2; simp only [PT.tx, PT.sz, List.length_append, List.length_cons, List.length_nil]; omega
  | .pr n a b, h => by have := sgT_len n; have := a.tx_len h.2.1; have := b.tx_len h.2.2; have := brS_len a.atm a.tx; have := brS_len b.atm b.tx; simp only [PT.tx, PT.sz, List.length_append, List.length_cons, List.length_nil]; omega
  | .ac nm a, h => by have := nm_len h.1; have := a.tx_len h.2; have := brS_len a.atm a.tx; simp only [PT.tx, PT.sz, List.length_append, List.length_cons, List.length_nil]; omega
  | .hn nm x y z a b c, h => by have := nm_len h.1.1; have := nm_len h.1.2.1; have := nm_len h.1.2.2.1; have := nm_len h.1.2.2.2; have := a.tx_len h.2.1; have := b.tx_len h.2.2.1; have := c.tx_len h.2.2.2; simp only [PT.tx, PT.sz, List.length_append, List.length_cons, List.length_nil]; omega
/-- the whole text. -/
def bsT (k : Int) : List UInt8 := if k = 1 then [98, 111, 111, 108] else [105, 110, 116]
def opT (o : Or) : List UInt8 := [111, 112, 32] ++ o.nm.data.toList ++ [32, 58, 32] ++ bsT o.f ++ [32, 45, 62, 32] ++ bsT o.t ++ [59, 32]
def opsT (os : List Or) : List UInt8 := os.flatMap opT
/-- a node in a box. -/
def BxN (w : World) (g : Nat) (t : Nd) : Prop := w.heap[g]? = some (.cells #[.int .i64 t.k, .int .i64 t.a, .int .i64 t.b, .int .i64 t.c, .int .i64 t.n, .string t.nm, .string t.x, .string t.y, .string t.z, .int .i64 t.p] 50 (0, 0))
theorem bxn_lit (w : World) (t : Nd) : BxN (w.alloc (.cells #[.int .i64 t.k, .int .i64 t.a, .int .i64 t.b, .int .i64 t.c, .int .i64 t.n, .string t.nm, .string t.x, .string t.y, .string t.z, .int .i64 t.p] 50)) w.heap.size t := by
  unfold BxN
  show (w.heap.push _)[w.heap.size]? = _
  rw [Array.getElem?_push_size]
theorem BxN.lt {w : World} {g : Nat} {t : Nd} (h : BxN w g t) : g < w.heap.size := (Array.getElem?_eq_some_iff.1 h).1
theorem BxN.below {w w' : World} {g : Nat} {t : Nd} (h : BxN w g t) (hb : Below w.heap.size w w') : BxN w' g t := (hb.block g h.lt).trans h
theorem BxN.cells {w : World} {g : Nat} {t : Nd} (h : BxN w g t) : w.cell? ⟨g, 0, none⟩ = some (.int .i64 t.k) ∧ w.cell? ⟨g, 1, none⟩ = some (.int .i64 t.a) ∧ w.cell? ⟨g, 2, none⟩ = some (.int .i64 t.b) ∧ w.cell? ⟨g, 3, none⟩ = some (.int .i64 t.c) ∧ w.cell? ⟨g, 4, none⟩ = some (.int .i64 t.n) ∧ w.cell? ⟨g, 5, none⟩ = some (.string t.nm) ∧ w.cell? ⟨g, 6, none⟩ = some (.string t.x) ∧ w.cell? ⟨g, 7, none⟩ = some (.string t.y) ∧ w.cell? ⟨g, 8, none⟩ = some (.string t.z) ∧ w.cell? ⟨g, 9, none⟩ = some (.int .i64 t.p) := by
  have e := fun j => Lib.cell_of_heap h j
  exact ⟨(e 0).trans rfl, (e 1).trans rfl, (e 2).trans rfl, (e 3).trans rfl, (e 4).trans rfl, (e 5).trans rfl, (e 6).trans rfl, (e 7).trans rfl, (e 8).trans rfl, (e 9).trans rfl⟩
end Go.Proofs.YtidlljookjicpaaGreatDoor
