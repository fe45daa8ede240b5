/- SourceSigns holds for every number. No condition. -/
import Derived.Test.YtbbhnohecbhjmaaSrcE
import Derived.Test.YtbbhnohecbhjmaaSrcF
import Derived.Test.YtbbhnohecbhjmaaAid
import Derived.Laws.BytesArg
import Derived.Test.YtbbhnohecbhjmaaRows
import Derived.WalkKit
import Derived.ProofKit
import Derived.OpenShut
import Derived.ShutString
import Derived.ChangeOld
import Derived.Below
import Derived.SizedLaws
namespace Go.Proofs.Ytbbhnohecbhjmaa.sourceSigns
open Go.ChangeShapes Go.WideShapes Go.ChangeAt Go.RowKit
open Go.ChangeMaps (open_string shut_string)
set_option linter.unusedVariables false

theorem conv_new (W : World) (g : Nat) (hg : g = W.heap.size) (xs : List Int) (n : Nat) (hn : xs.length = n) (T : TypeId) :
    (convert 33 9 (.slice (some ⟨g, 0, none⟩) n n)).run Try.prog (W.alloc (.cells (xs.map (Value.int .u8)).toArray T)) = .ok (.string (strOfNums xs)) (W.alloc (.cells (xs.map (Value.int .u8)).toArray T)) := by
  refine run_convert_bytes_arg (w := W.alloc (.cells (xs.map (Value.int .u8)).toArray T)) 33 5 Try.underlying33 Try.underlying5 g 0 n n xs hn ?_ 9 Try.underlying9
  intro i hi
  subst hg
  have e : (W.alloc (.cells (xs.map (Value.int .u8)).toArray T)).cell? ⟨W.heap.size, 0 + i, none⟩ = ((xs.map (Value.int .u8)).toArray)[0 + i]? := by
    simp [World.cell?_alloc_new]
  rw [e]
  have hi' : i < xs.length := by omega
  simp [hi']

theorem nums_at (xs : List Int) (i : Nat) (hi : i < xs.length) (hb : ∀ n ∈ xs, 0 ≤ n ∧ n ≤ 255) : bAt (strOfNums xs) i = xs[i] := by
  unfold bAt
  rw [strOfNums_data, List.getElem?_map, List.getElem?_eq_getElem hi]
  have := hb xs[i] (List.getElem_mem hi)
  simp
  omega

theorem sur (b c : Int) (hb : 160 ≤ b ∧ b ≤ 255) (hc : 0 ≤ c ∧ c ≤ 255) : vaV (strOfNums [237, b, c]) = (0, false) := by
  have hall : ∀ n ∈ [237, b, c], 0 ≤ n ∧ n ≤ 255 := by simp; omega
  have h0 : bAt (strOfNums [237, b, c]) 0 = 237 := nums_at _ 0 (by simp) hall
  have h1 : bAt (strOfNums [237, b, c]) 1 = b := nums_at _ 1 (by simp) hall
  rw [vaV_eq]
  have hz : widF (strOfNums [237, b, c]) 0 = 0 := by
    unfold widF
    rw [h0]
    have : allB (strOfNums [237, b, c]) 0 (leadF 237).toNat = false := by
      apply allB_no _ _ 1 _ (by omega) (by decide)
      unfold okB
      rw [if_pos rfl, h0, h1]
      have : ¬ b ≤ highF 237 := by show ¬ b ≤ 159; omega
      simp [this]
    rw [this]; simp
  exact vaAt_bad (by rw [strOfNums_size]; simp) hz

theorem good (xs : List Int) (hb : ∀ n ∈ xs, 0 ≤ n ∧ n ≤ 255) (hl : leadF (xs[0]?.getD 0) = xs.length) (h1 : 0 < xs.length) (hok : ∀ j, 1 ≤ j → j < xs.length → okB (strOfNums xs) 0 j = true) :
    widF (strOfNums xs) 0 = xs.length ∧ vaV (strOfNums xs) = (0, true) := by
  have h0 : bAt (strOfNums xs) 0 = xs[0]?.getD 0 := by
    rw [nums_at xs 0 h1 hb, List.getElem?_eq_getElem h1]; rfl
  have hw : widF (strOfNums xs) 0 = xs.length := by
    unfold widF
    rw [h0, hl, if_pos]
    simp only [Bool.and_eq_true, decide_eq_true_eq]
    refine ⟨by rw [strOfNums_size]; omega, ?_⟩
    unfold allB
    rw [List.all_eq_true]
    intro j hj
    have hj' : j < xs.length := by simpa using hj
    by_cases hj0 : j = 0
    · simp [hj0]
    · rw [hok j (by omega) hj']; simp
  refine ⟨hw, ?_⟩
  rw [vaV_eq, vaAt_step (by rw [strOfNums_size]; omega) (by rw [hw]; omega), hw]
  exact vaAt_end (by rw [strOfNums_size]; omega)

theorem good1 (a : Int) (h : 0 ≤ a ∧ a < 128) : widF (strOfNums [a]) 0 = 1 ∧ vaV (strOfNums [a]) = (0, true) :=
  good [a] (by simp; omega) (by simp [leadF]; (repeat split) <;> omega) (by simp) (by simp; omega)
theorem good2 (a b : Int) (h : 194 ≤ a ∧ a < 224) (hb : 128 ≤ b ∧ b ≤ 191) : widF (strOfNums [a, b]) 0 = 2 ∧ vaV (strOfNums [a, b]) = (0, true) := by
  have hall : ∀ n ∈ [a, b], 0 ≤ n ∧ n ≤ 255 := by simp; omega
  have h0 : bAt (strOfNums [a, b]) 0 = a := nums_at _ 0 (by simp) hall
  have h1 : bAt (strOfNums [a, b]) 1 = b := nums_at _ 1 (by simp) hall
  refine good [a, b] hall (by simp [leadF]; (repeat split) <;> omega) (by simp) ?_
  intro j hj1 hj2
  obtain rfl : j = 1 := by simp at hj2; omega
  unfold okB
  rw [if_pos rfl, h0, h1]
  have : lowF a = 128 := by unfold lowF; (repeat split) <;> omega
  have : highF a = 191 := by unfold highF; (repeat split) <;> omega
  simp [*]
theorem good3 (a b c : Int) (h : 224 ≤ a ∧ a < 240) (hb1 : lowF a ≤ b) (hb2 : b ≤ highF a) (hb3 : 0 ≤ b ∧ b ≤ 255) (hc : 128 ≤ c ∧ c ≤ 191) : widF (strOfNums [a, b, c]) 0 = 3 ∧ vaV (strOfNums [a, b, c]) = (0, true) := by
  have hall : ∀ n ∈ [a, b, c], 0 ≤ n ∧ n ≤ 255 := by simp; omega
  have h0 : bAt (strOfNums [a, b, c]) 0 = a := nums_at _ 0 (by simp) hall
  have h1 : bAt (strOfNums [a, b, c]) 1 = b := nums_at _ 1 (by simp) hall
  have h2 : bAt (strOfNums [a, b, c]) 2 = c := nums_at _ 2 (by simp) hall
  refine good [a, b, c] hall (by simp [leadF]; (repeat split) <;> omega) (by simp) ?_
  intro j hj1 hj2
  have hj : j = 1 ∨ j = 2 := by simp at hj2; omega
  rcases hj with rfl | rfl
  · unfold okB; rw [if_pos rfl, h0, h1]; simp [hb1, hb2]
  · unfold okB; rw [if_neg (by omega), h2]; simp [hc]
theorem good4 (a b c d : Int) (h : 240 ≤ a ∧ a < 245) (hb1 : lowF a ≤ b) (hb2 : b ≤ highF a) (hb3 : 0 ≤ b ∧ b ≤ 255) (hc : 128 ≤ c ∧ c ≤ 191) (hd : 128 ≤ d ∧ d ≤ 191) : widF (strOfNums [a, b, c, d]) 0 = 4 ∧ vaV (strOfNums [a, b, c, d]) = (0, true) := by
  have hall : ∀ n ∈ [a, b, c, d], 0 ≤ n ∧ n ≤ 255 := by simp; omega
  have h0 : bAt (strOfNums [a, b, c, d]) 0 = a := nums_at _ 0 (by simp) hall
  have h1 : bAt (strOfNums [a, b, c, d]) 1 = b := nums_at _ 1 (by simp) hall
  have h2 : bAt (strOfNums [a, b, c, d]) 2 = c := nums_at _ 2 (by simp) hall
  have h3 : bAt (strOfNums [a, b, c, d]) 3 = d := nums_at _ 3 (by simp) hall
  refine good [a, b, c, d] hall (by simp [leadF]; (repeat split) <;> omega) (by simp) ?_
  intro j hj1 hj2
  have hj : j = 1 ∨ j = 2 ∨ j = 3 := by simp at hj2; omega
  rcases hj with rfl | rfl | rfl
  · unfold okB; rw [if_pos rfl, h0, h1]; simp [hb1, hb2]
  · unfold okB; rw [if_neg (by omega), h2]; simp [hc]
  · unfold okB; rw [if_neg (by omega), h3]; simp [hd]

theorem wv_of {s : ByteArray} {k : Int} (h : widF s 0 = k) (hs : 0 < s.size) : wdV s 0 = k := by
  have := wd_in (s := s) (n := 0) hs
  rw [h] at this; exact this
theorem we_of {s : ByteArray} {k : Int} (h : widF s 0 = k) (hk : 0 < k) (hs : 0 < s.size) : wdE s 0 = 0 := by
  unfold wdE; rw [wv_of h hs, if_pos hk]
theorem cutLe (s : ByteArray) (a b : Nat) (h : s.size ≤ 8) : (s.extract a b).size ≤ 1125899906842624 := by simp; omega
theorem bel2 (w : World) (a b : Obj) : Below w.heap.size w ((w.alloc a).alloc b) := ((Below.refl _ _).alloc (Nat.le_refl _) _).alloc (by simp) _

set_option maxHeartbeats 1000000 in
set_option maxRecDepth 100000 in
theorem walk0 (a0 m : Int) (hm0 : 0 ≤ m) (hm1 : m < 1114112) (he : wrap64 ((IntKind.u64.wrap a0).tmod 1114112) = m) (hsur : 55296 ≤ m ∧ m < 57344) (w : World) :
    Calls Try.prog 5 #[.int .i64 a0] w fun e w' => e = .returned (.bool true) ∧ Below w.heap.size w w' := by
  have kc1 := fun (W : World) (g : Nat) (a : Int) (hg : g = W.heap.size) => conv_new W g hg [a] 1 rfl 5
  have kc2 := fun (W : World) (g : Nat) (a b : Int) (hg : g = W.heap.size) => conv_new W g hg [a, b] 2 rfl 5
  have kc3 := fun (W : World) (g : Nat) (a b c : Int) (hg : g = W.heap.size) => conv_new W g hg [a, b, c] 3 rfl 5
  have kc4 := fun (W : World) (g : Nat) (a b c d : Int) (hg : g = W.heap.size) => conv_new W g hg [a, b, c, d] 4 rfl 5
  simp only [List.map_cons, List.map_nil] at kc1 kc2 kc3 kc4
  have e0 := and127 m
  have e1 := and63 m
  have e2 := and63 (m / 64)
  have e2' := and63 (m / 4096)
  have e3 := or128 (m % 64) (by omega) (by omega)
  have e4 := or128 (m / 64 % 64) (by omega) (by omega)
  have e4' := or128 (m / 4096 % 64) (by omega) (by omega)
  go_enter Try.func5, Try.ntmps5
  go_wp2_with fail
  refine (awake_any _).mono ?_
  rintro e w' ⟨rfl, rfl⟩
  have := hm0
  · go_wp2_with fail
    refine (valid_any _ _ (by rw [strOfNums_size]; simp)).mono ?_
    rintro e w' ⟨rfl, rfl⟩
    rw [sur _ _ (by omega) (by omega)]
    go_wp2_with fail
    go_ret
    exact ⟨rfl, (Below.refl _ _).alloc (Nat.le_refl _) _⟩

set_option maxHeartbeats 1000000 in
set_option maxRecDepth 100000 in
theorem walk4 (a0 m : Int) (hm0 : 0 ≤ m) (hm1 : m < 1114112) (he : wrap64 ((IntKind.u64.wrap a0).tmod 1114112) = m) (hsur : ¬ (55296 ≤ m ∧ m < 57344)) (c4 : 65536 ≤ m) (w : World) :
    Calls Try.prog 5 #[.int .i64 a0] w fun e w' => e = .returned (.bool true) ∧ Below w.heap.size w w' := by
  have kc1 := fun (W : World) (g : Nat) (a : Int) (hg : g = W.heap.size) => conv_new W g hg [a] 1 rfl 5
  have kc2 := fun (W : World) (g : Nat) (a b : Int) (hg : g = W.heap.size) => conv_new W g hg [a, b] 2 rfl 5
  have kc3 := fun (W : World) (g : Nat) (a b c : Int) (hg : g = W.heap.size) => conv_new W g hg [a, b, c] 3 rfl 5
  have kc4 := fun (W : World) (g : Nat) (a b c d : Int) (hg : g = W.heap.size) => conv_new W g hg [a, b, c, d] 4 rfl 5
  simp only [List.map_cons, List.map_nil] at kc1 kc2 kc3 kc4
  have e0 := and127 m
  have e1 := and63 m
  have e2 := and63 (m / 64)
  have e2' := and63 (m / 4096)
  have e3 := or128 (m % 64) (by omega) (by omega)
  have e4 := or128 (m / 64 % 64) (by omega) (by omega)
  have e4' := or128 (m / 4096 % 64) (by omega) (by omega)
  go_enter Try.func5, Try.ntmps5
  go_wp2_with fail
  refine (awake_any _).mono ?_
  rintro e w' ⟨rfl, rfl⟩
  have := hm0
  · have e5 := or240 (m / 262144) (by omega) (by omega)
    have hg := good4 (240 + m / 262144) (128 + m / 4096 % 64) (128 + m / 64 % 64) (128 + m % 64) (by omega) (by unfold lowF; (repeat split) <;> omega) (by unfold highF; (repeat split) <;> omega) (by omega) (by omega) (by omega)
    have hw := Lib.hid hg.1
    have hv := Lib.hid hg.2
    clear hg
    have hsz : (strOfNums [240 + m / 262144, 128 + m / 4096 % 64, 128 + m / 64 % 64, 128 + m % 64]).size = 4 := rfl
    go_wp2_with fail
    refine (valid_any _ _ (by rw [strOfNums_size]; simp)).mono ?_
    rintro e w' ⟨rfl, rfl⟩
    rw [hv.out]
    go_wp2_with fail
    refine (width_any _ _ _ (by rw [strOfNums_size]; simp) (by decide) (by decide)).mono ?_
    rintro e w' ⟨rfl, rfl⟩
    rw [we_of hw.out (by omega) (by rw [strOfNums_size]; simp), wv_of hw.out (by rw [strOfNums_size]; simp)]
    go_wp2_with fail
    refine (valid_any _ _ (cutLe _ _ _ (by rw [strOfNums_size]; simp))).mono ?_
    rintro e w' ⟨rfl, rfl⟩
    obtain ⟨⟨x, y⟩, hxy⟩ : ∃ p, vaV (ByteArray.extract (strOfNums [240 + m / 262144, 128 + m / 4096 % 64, 128 + m / 64 % 64, 128 + m % 64]) 0 3) = p := ⟨_, rfl⟩
    rw [hxy]
    clear hxy
    cases y
    all_goals go_wp2_with (go_at_call 12; refine (num_any _ _ (by omega) (by omega)).mono ?_; rintro e w' ⟨rfl, rfl⟩)
    all_goals go_ret
    all_goals exact ⟨rfl, bel2 _ _ _⟩

set_option maxHeartbeats 1000000 in
set_option maxRecDepth 100000 in
theorem walk3a (a0 m : Int) (hm0 : 0 ≤ m) (hm1 : m < 1114112) (he : wrap64 ((IntKind.u64.wrap a0).tmod 1114112) = m) (hsur : m < 55296) (c4 : ¬ 65536 ≤ m) (c3 : 2048 ≤ m) (w : World) :
    Calls Try.prog 5 #[.int .i64 a0] w fun e w' => e = .returned (.bool true) ∧ Below w.heap.size w w' := by
  have kc1 := fun (W : World) (g : Nat) (a : Int) (hg : g = W.heap.size) => conv_new W g hg [a] 1 rfl 5
  have kc2 := fun (W : World) (g : Nat) (a b : Int) (hg : g = W.heap.size) => conv_new W g hg [a, b] 2 rfl 5
  have kc3 := fun (W : World) (g : Nat) (a b c : Int) (hg : g = W.heap.size) => conv_new W g hg [a, b, c] 3 rfl 5
  have kc4 := fun (W : World) (g : Nat) (a b c d : Int) (hg : g = W.heap.size) => conv_new W g hg [a, b, c, d] 4 rfl 5
  simp only [List.map_cons, List.map_nil] at kc1 kc2 kc3 kc4
  have e0 := and127 m
  have e1 := and63 m
  have e2 := and63 (m / 64)
  have e2' := and63 (m / 4096)
  have e3 := or128 (m % 64) (by omega) (by omega)
  have e4 := or128 (m / 64 % 64) (by omega) (by omega)
  have e4' := or128 (m / 4096 % 64) (by omega) (by omega)
  go_enter Try.func5, Try.ntmps5
  go_wp2_with fail
  refine (awake_any _).mono ?_
  rintro e w' ⟨rfl, rfl⟩
  have := hm0
  · have e5 := or224 (m / 4096) (by omega) (by omega)
    have hg := good3 (224 + m / 4096) (128 + m / 64 % 64) (128 + m % 64) (by omega) (by unfold lowF; (repeat split) <;> omega) (by unfold highF; (repeat split) <;> omega) (by omega) (by omega)
    have hw := Lib.hid hg.1
    have hv := Lib.hid hg.2
    clear hg
    have hsz : (strOfNums [224 + m / 4096, 128 + m / 64 % 64, 128 + m % 64]).size = 3 := rfl
    go_wp2_with fail
    refine (valid_any _ _ (by rw [strOfNums_size]; simp)).mono ?_
    rintro e w' ⟨rfl, rfl⟩
    rw [hv.out]
    go_wp2_with fail
    refine (width_any _ _ _ (by rw [strOfNums_size]; simp) (by decide) (by decide)).mono ?_
    rintro e w' ⟨rfl, rfl⟩
    rw [we_of hw.out (by omega) (by rw [strOfNums_size]; simp), wv_of hw.out (by rw [strOfNums_size]; simp)]
    go_wp2_with fail
    refine (valid_any _ _ (cutLe _ _ _ (by rw [strOfNums_size]; simp))).mono ?_
    rintro e w' ⟨rfl, rfl⟩
    obtain ⟨⟨x, y⟩, hxy⟩ : ∃ p, vaV (ByteArray.extract (strOfNums [224 + m / 4096, 128 + m / 64 % 64, 128 + m % 64]) 0 2) = p := ⟨_, rfl⟩
    rw [hxy]
    clear hxy
    cases y
    all_goals go_wp2_with (go_at_call 12; refine (num_any _ _ (by omega) (by omega)).mono ?_; rintro e w' ⟨rfl, rfl⟩)
    all_goals go_ret
    all_goals exact ⟨rfl, bel2 _ _ _⟩

set_option maxHeartbeats 1000000 in
set_option maxRecDepth 100000 in
theorem walk3b (a0 m : Int) (hm0 : 0 ≤ m) (hm1 : m < 1114112) (he : wrap64 ((IntKind.u64.wrap a0).tmod 1114112) = m) (hsur : 57344 ≤ m) (c4 : ¬ 65536 ≤ m) (c3 : 2048 ≤ m) (w : World) :
    Calls Try.prog 5 #[.int .i64 a0] w fun e w' => e = .returned (.bool true) ∧ Below w.heap.size w w' := by
  have kc1 := fun (W : World) (g : Nat) (a : Int) (hg : g = W.heap.size) => conv_new W g hg [a] 1 rfl 5
  have kc2 := fun (W : World) (g : Nat) (a b : Int) (hg : g = W.heap.size) => conv_new W g hg [a, b] 2 rfl 5
  have kc3 := fun (W : World) (g : Nat) (a b c : Int) (hg : g = W.heap.size) => conv_new W g hg [a, b, c] 3 rfl 5
  have kc4 := fun (W : World) (g : Nat) (a b c d : Int) (hg : g = W.heap.size) => conv_new W g hg [a, b, c, d] 4 rfl 5
  simp only [List.map_cons, List.map_nil] at kc1 kc2 kc3 kc4
  have e0 := and127 m
  have e1 := and63 m
  have e2 := and63 (m / 64)
  have e2' := and63 (m / 4096)
  have e3 := or128 (m % 64) (by omega) (by omega)
  have e4 := or128 (m / 64 % 64) (by omega) (by omega)
  have e4' := or128 (m / 4096 % 64) (by omega) (by omega)
  go_enter Try.func5, Try.ntmps5
  go_wp2_with fail
  refine (awake_any _).mono ?_
  rintro e w' ⟨rfl, rfl⟩
  have := hm0
  · have e5 := or224 (m / 4096) (by omega) (by omega)
    have hg := good3 (224 + m / 4096) (128 + m / 64 % 64) (128 + m % 64) (by omega) (by unfold lowF; (repeat split) <;> omega) (by unfold highF; (repeat split) <;> omega) (by omega) (by omega)
    have hw := Lib.hid hg.1
    have hv := Lib.hid hg.2
    clear hg
    have hsz : (strOfNums [224 + m / 4096, 128 + m / 64 % 64, 128 + m % 64]).size = 3 := rfl
    go_wp2_with fail
    refine (valid_any _ _ (by rw [strOfNums_size]; simp)).mono ?_
    rintro e w' ⟨rfl, rfl⟩
    rw [hv.out]
    go_wp2_with fail
    refine (width_any _ _ _ (by rw [strOfNums_size]; simp) (by decide) (by decide)).mono ?_
    rintro e w' ⟨rfl, rfl⟩
    rw [we_of hw.out (by omega) (by rw [strOfNums_size]; simp), wv_of hw.out (by rw [strOfNums_size]; simp)]
    go_wp2_with fail
    refine (valid_any _ _ (cutLe _ _ _ (by rw [strOfNums_size]; simp))).mono ?_
    rintro e w' ⟨rfl, rfl⟩
    obtain ⟨⟨x, y⟩, hxy⟩ : ∃ p, vaV (ByteArray.extract (strOfNums [224 + m / 4096, 128 + m / 64 % 64, 128 + m % 64]) 0 2) = p := ⟨_, rfl⟩
    rw [hxy]
    clear hxy
    cases y
    all_goals go_wp2_with (go_at_call 12; refine (num_any _ _ (by omega) (by omega)).mono ?_; rintro e w' ⟨rfl, rfl⟩)
    all_goals go_ret
    all_goals exact ⟨rfl, bel2 _ _ _⟩

set_option maxHeartbeats 1000000 in
set_option maxRecDepth 100000 in
theorem walk2 (a0 m : Int) (hm0 : 0 ≤ m) (hm1 : m < 1114112) (he : wrap64 ((IntKind.u64.wrap a0).tmod 1114112) = m) (hsur : ¬ (55296 ≤ m ∧ m < 57344)) (c4 : ¬ 65536 ≤ m) (c3 : ¬ 2048 ≤ m) (c2 : 128 ≤ m) (w : World) :
    Calls Try.prog 5 #[.int .i64 a0] w fun e w' => e = .returned (.bool true) ∧ Below w.heap.size w w' := by
  have kc1 := fun (W : World) (g : Nat) (a : Int) (hg : g = W.heap.size) => conv_new W g hg [a] 1 rfl 5
  have kc2 := fun (W : World) (g : Nat) (a b : Int) (hg : g = W.heap.size) => conv_new W g hg [a, b] 2 rfl 5
  have kc3 := fun (W : World) (g : Nat) (a b c : Int) (hg : g = W.heap.size) => conv_new W g hg [a, b, c] 3 rfl 5
  have kc4 := fun (W : World) (g : Nat) (a b c d : Int) (hg : g = W.heap.size) => conv_new W g hg [a, b, c, d] 4 rfl 5
  simp only [List.map_cons, List.map_nil] at kc1 kc2 kc3 kc4
  have e0 := and127 m
  have e1 := and63 m
  have e2 := and63 (m / 64)
  have e2' := and63 (m / 4096)
  have e3 := or128 (m % 64) (by omega) (by omega)
  have e4 := or128 (m / 64 % 64) (by omega) (by omega)
  have e4' := or128 (m / 4096 % 64) (by omega) (by omega)
  go_enter Try.func5, Try.ntmps5
  go_wp2_with fail
  refine (awake_any _).mono ?_
  rintro e w' ⟨rfl, rfl⟩
  have := hm0
  · have e5 := or192 (m / 64) (by omega) (by omega)
    have hg := good2 (192 + m / 64) (128 + m % 64) (by omega) (by omega)
    have hw := Lib.hid hg.1
    have hv := Lib.hid hg.2
    clear hg
    have hsz : (strOfNums [192 + m / 64, 128 + m % 64]).size = 2 := rfl
    go_wp2_with fail
    refine (valid_any _ _ (by rw [strOfNums_size]; simp)).mono ?_
    rintro e w' ⟨rfl, rfl⟩
    rw [hv.out]
    go_wp2_with fail
    refine (width_any _ _ _ (by rw [strOfNums_size]; simp) (by decide) (by decide)).mono ?_
    rintro e w' ⟨rfl, rfl⟩
    rw [we_of hw.out (by omega) (by rw [strOfNums_size]; simp), wv_of hw.out (by rw [strOfNums_size]; simp)]
    go_wp2_with fail
    refine (valid_any _ _ (cutLe _ _ _ (by rw [strOfNums_size]; simp))).mono ?_
    rintro e w' ⟨rfl, rfl⟩
    obtain ⟨⟨x, y⟩, hxy⟩ : ∃ p, vaV (ByteArray.extract (strOfNums [192 + m / 64, 128 + m % 64]) 0 1) = p := ⟨_, rfl⟩
    rw [hxy]
    clear hxy
    cases y
    all_goals go_wp2_with (go_at_call 12; refine (num_any _ _ (by omega) (by omega)).mono ?_; rintro e w' ⟨rfl, rfl⟩)
    all_goals go_ret
    all_goals exact ⟨rfl, bel2 _ _ _⟩

set_option maxHeartbeats 1000000 in
set_option maxRecDepth 100000 in
theorem walk1 (a0 m : Int) (hm0 : 0 ≤ m) (hm1 : m < 1114112) (he : wrap64 ((IntKind.u64.wrap a0).tmod 1114112) = m) (hsur : ¬ (55296 ≤ m ∧ m < 57344)) (c4 : ¬ 65536 ≤ m) (c3 : ¬ 2048 ≤ m) (c2 : ¬ 128 ≤ m) (w : World) :
    Calls Try.prog 5 #[.int .i64 a0] w fun e w' => e = .returned (.bool true) ∧ Below w.heap.size w w' := by
  have kc1 := fun (W : World) (g : Nat) (a : Int) (hg : g = W.heap.size) => conv_new W g hg [a] 1 rfl 5
  have kc2 := fun (W : World) (g : Nat) (a b : Int) (hg : g = W.heap.size) => conv_new W g hg [a, b] 2 rfl 5
  have kc3 := fun (W : World) (g : Nat) (a b c : Int) (hg : g = W.heap.size) => conv_new W g hg [a, b, c] 3 rfl 5
  have kc4 := fun (W : World) (g : Nat) (a b c d : Int) (hg : g = W.heap.size) => conv_new W g hg [a, b, c, d] 4 rfl 5
  simp only [List.map_cons, List.map_nil] at kc1 kc2 kc3 kc4
  have e0 := and127 m
  have e1 := and63 m
  have e2 := and63 (m / 64)
  have e2' := and63 (m / 4096)
  have e3 := or128 (m % 64) (by omega) (by omega)
  have e4 := or128 (m / 64 % 64) (by omega) (by omega)
  have e4' := or128 (m / 4096 % 64) (by omega) (by omega)
  go_enter Try.func5, Try.ntmps5
  go_wp2_with fail
  refine (awake_any _).mono ?_
  rintro e w' ⟨rfl, rfl⟩
  have := hm0
  · have hg := good1 (m % 128) (by omega)
    have hw := Lib.hid hg.1
    have hv := Lib.hid hg.2
    clear hg
    have hsz : (strOfNums [m % 128]).size = 1 := rfl
    go_wp2_with fail
    refine (valid_any _ _ (by rw [strOfNums_size]; simp)).mono ?_
    rintro e w' ⟨rfl, rfl⟩
    rw [hv.out]
    go_wp2_with fail
    refine (width_any _ _ _ (by rw [strOfNums_size]; simp) (by decide) (by decide)).mono ?_
    rintro e w' ⟨rfl, rfl⟩
    rw [we_of hw.out (by omega) (by rw [strOfNums_size]; simp), wv_of hw.out (by rw [strOfNums_size]; simp)]
    go_wp2_with fail
    refine (valid_any _ _ (by decide)).mono ?_
    rintro e w' ⟨rfl, rfl⟩
    rw [show vaV ByteArray.empty = (0, true) from by decide +kernel]
    go_wp2_with (go_at_call 12; refine (num_any _ _ (by omega) (by omega)).mono ?_; rintro e w' ⟨rfl, rfl⟩)
    all_goals go_ret
    all_goals exact ⟨rfl, (Below.refl _ _).alloc (Nat.le_refl _) _⟩


theorem walk (a0 : Int) (w0 : -9223372036854775808 ≤ a0 ∧ a0 ≤ 9223372036854775807) (w : World) :
    Calls Try.prog 5 #[.int .i64 a0] w fun e w' => e = .returned (.bool true) ∧ Below w.heap.size w w' := by
  obtain ⟨m, hm0, hm1, he⟩ := umod_int a0 1114112 (by omega) (by omega)
  by_cases hsur : 55296 ≤ m ∧ m < 57344
  · exact walk0 a0 m hm0 hm1 he hsur w
  by_cases c4 : 65536 ≤ m
  · exact walk4 a0 m hm0 hm1 he hsur c4 w
  by_cases c3 : 2048 ≤ m
  · by_cases hlo : m < 55296
    · exact walk3a a0 m hm0 hm1 he hlo c4 c3 w
    · exact walk3b a0 m hm0 hm1 he (by omega) c4 c3 w
  by_cases c2 : 128 ≤ m
  · exact walk2 a0 m hm0 hm1 he hsur c4 c3 c2 w
  · exact walk1 a0 m hm0 hm1 he hsur c4 c3 c2 w

theorem own : ownKnob Try.prog.godebug = none := by kernel_rfl
theorem laidOut : laidOutB Try.prog = true := by kernel_rfl
set_option maxRecDepth 100000 in
theorem lifted (os : Os) (started : os.Started) (H : Type) (enc : TypeId × Value → H) :
    ReturnsInHanded {} Try.checked os 5 .any (Rows.sourceSignsSpec.pre6 enc Try.prog Try.f5 Rows.sourceSignsRow.domain false) (Rows.sourceSignsSpec.post enc Try.prog Try.f5 false true false false) := by
  refine returnsInHanded_of_change_sized (C := Try.checked) own started (by kernel_rfl) Try.func5
    (ChangeSpec.witness6 (enc := enc) (C := Try.checked) false ⟨#[], #[.int .i64 0], []⟩ 8 (by kernel_rfl) (by kernel_rfl) (by kernel_rfl) (by kernel_rfl)) ?_
  intro W base args ds gs before hval0 hW hcnd hsz0 _
  have hval : ∀ (j : Nat) t v, Try.f5.params[j]? = some t → args[j]? = some v → Value.okWide Try.prog W .any base t v := hval0
  have hsz : (DataW.weightsEach Try.prog (Try.f5.params.toList ++ Rows.sourceSignsSpec.plain.varTypes Try.prog) (ds ++ gs)).all (· ≤ reachBytes) = true := hsz0
  have hW' := hW
  obtain ⟨p, q, hA0, hV, rfl, hfz, hnd⟩ := hW
  have hA : DataW.TrodAll enc Try.prog W 0 (fun _ => true) true Try.f5.params.toList args.toList ds p := hA0
  rw [Try.params5] at hA hval hsz
  obtain ⟨v0, vs0, d0, ds0, p0, q0, hargs, rfl, rfl, h0, r0⟩ := trodAll_cons hA
  obtain ⟨rfl, rfl, rfl⟩ := trodAll_nil r0
  obtain rfl : args = #[v0] := by cases args; simp_all
  obtain ⟨rfl, rfl⟩ := trodVars_none hV
  obtain ⟨a0, rfl, rfl, rfl, m0⟩ := open_int Try.underlying3 (hval 0 3 v0 rfl rfl) h0
  have w0 : -9223372036854775808 ≤ a0 ∧ a0 ≤ 9223372036854775807 := by simpa [Lit.wf, IntKind.min, IntKind.max, IntKind.signed, IntKind.bits] using m0
  clear hA0 hval0
  refine (walk a0 w0 W).mono fun e W' ⟨he, bel⟩ => ?_
  subst he
  exact ⟨_, rfl, _, _, _, [], [], [], hW', trodAll_mk1 (shut_bool Try.underlying4 _), (trodAll_cons_mk (shut_int Try.underlying3 m0) trodAll_mk0), rfl, bel.frame _, fun h => by cases h⟩
theorem over : Rows.sourceSignsRow.holds Try.pinned (OpenSpec.ofChange Rows.sourceSignsSpec) :=
  OpenClaim.holds_of_wide 5 Try.f5 rfl rfl rfl rfl rfl rfl rfl ⟨rfl, rfl, rfl, rfl, rfl⟩ rfl rfl rfl rfl rfl (by kernel_rfl) Try.func5 (by kernel_rfl)
    (of_decide_eq_true (by kernel_rfl)) (by unfold Func.isWrapper; first | (rw [if_pos (by decide +kernel)]; kernel_rfl) | (rw [if_neg (by decide +kernel)]; exact ⟨rfl, rfl⟩))
    (fun os started H enc _ => lifted os started H enc)
theorem proved : Rows.SourceSignsSaid := over
end Go.Proofs.Ytbbhnohecbhjmaa.sourceSigns
