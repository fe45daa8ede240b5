/- Parts one behind the other. Plain. -/
import Derived.Test.YtidlljookjicpaaGreatDoorBg
namespace Go.Proofs.YtidlljookjicpaaGreatDoor
set_option linter.unusedVariables false
set_option linter.unusedSimpArgs false

/-- parts one behind the other, from b up to e. -/
def Seg (g : Nat → Int) : Int → List Int → Int → Prop
  | b, [], e => b = e
  | b, c :: cs, e => 0 ≤ c ∧ g c.toNat = b ∧ Seg g (c + 1) cs e
theorem seg_snoc {g : Nat → Int} : ∀ {cs : List Int} {b e c : Int}, Seg g b cs e → 0 ≤ c → g c.toNat = e → Seg g b (cs ++ [c]) (c + 1)
  | [], b, e, c, h, h0, h1 => by
    have h : b = e := h
    exact ⟨h0, by rw [h1, h], rfl⟩
  | d :: cs, b, e, c, h, h0, h1 => ⟨h.1, h.2.1, seg_snoc h.2.2 h0 h1⟩
theorem seg_of {g : Nat → Int} : ∀ (rs : List Int) (k : Int), 0 ≤ bgK g rs k → Seg g (bgK g rs k) rs.reverse k
  | [], k, _ => rfl
  | c :: rs, k, h => by
    unfold bgK at h ⊢
    by_cases h1 : c = k - 1 ∧ 1 ≤ k
    · rw [if_pos h1] at h ⊢
      by_cases h2 : g (k - 1).toNat < 0
      · rw [if_pos h2] at h; omega
      · rw [if_neg h2] at h ⊢
        rw [List.reverse_cons]
        have := seg_snoc (c := c) (seg_of rs _ h) (by omega) (by rw [h1.1])
        rwa [show c + 1 = k by omega] at this
    · rw [if_neg h1] at h; omega
theorem seg_bg (ks : Nat → List Int) (i : Nat) (h : 0 ≤ bg ks i) : Seg (bg ks) (bg ks i) (ks i) i := by
  have hh := h
  rw [bg_eq] at hh
  have := seg_of _ _ hh
  rw [← bg_eq, List.reverse_reverse] at this
  exact this
theorem seg_le {g : Nat → Int} (hg : ∀ j, g j ≤ j) : ∀ {cs : List Int} {b e : Int}, Seg g b cs e → b ≤ e
  | [], b, e, h => by have h : b = e := h; omega
  | c :: cs, b, e, h => by
    obtain ⟨h0, h1, h2⟩ := h
    have := seg_le hg h2
    have := hg c.toNat
    omega
theorem seg_mem {g : Nat → Int} (hg : ∀ j, g j ≤ j) : ∀ {cs : List Int} {b e : Int}, Seg g b cs e → ∀ c ∈ cs, 0 ≤ c ∧ b ≤ g c.toNat ∧ c < e
  | [], b, e, h, c, hc => by cases hc
  | d :: cs, b, e, h, c, hc => by
    obtain ⟨h0, h1, h2⟩ := h
    have h3 := seg_le hg h2
    have h4 := hg d.toNat
    rcases List.mem_cons.1 hc with rfl | hc
    · omega
    · have := seg_mem hg h2 c hc
      omega
end Go.Proofs.YtidlljookjicpaaGreatDoor
