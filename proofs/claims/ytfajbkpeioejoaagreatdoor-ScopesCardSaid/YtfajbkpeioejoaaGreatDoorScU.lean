/- Copies of nodes and of operations; where the operations stand. -/
import Derived.Test.YtfajbkpeioejoaaGreatDoorScS
import Derived.Test.YtfajbkpeioejoaaGreatDoorNdO
import Derived.Test.YtfajbkpeioejoaaGreatDoorMay
import Derived.Test.YtfajbkpeioejoaaGreatDoorScW
import Derived.Test.YtfajbkpeioejoaaGreatDoorNaD
/- Copies of nodes and of operations; where the operations stand. -/
namespace Go.Proofs.YtfajbkpeioejoaaGreatDoor
open Go.RowKit
set_option linter.unusedVariables false
set_option linter.unusedSimpArgs false

set_option maxRecDepth 100000 in
set_option maxHeartbeats 1000000 in
theorem cloneN_none (n c : Nat) (w : World) (hn : n = 0) :
    Calls Tryz.prog 18 #[.slice none n c] w fun e w' => ∃ v, e = .returned v ∧ OwnN w.heap.size w' v [] ∧ Below w.heap.size w w' := by
  subst hn
  have heq : ∀ W : World, (binOp .eql 23 (.slice none 0 c) (.slice none 0 0)).run Tryz.prog W = .ok (.bool true) W := fun _ => by kernel_rfl
  go_enter Tryz.func18, Tryz.ntmps18
  go_wp2_with fail
  go_ret
  exact ⟨_, rfl, OwnN.nil _ _, Below.refl _ _⟩
set_option maxRecDepth 100000 in
set_option maxHeartbeats 1000000 in
theorem cloneN_some (ad : Addr) (n c : Nat) (l : List Nd) (w : World) (hn : n = l.length) (h : Hid (∀ j u, (ndL l)[j]? = some u → (w.alloc (.cells #[] 42)).cell? (ad.add j) = some u)) (hl : l.length * 112 ≤ 140737488351232) :
    Calls Tryz.prog 18 #[.slice (some ad) n c] w fun e w' => ∃ v, e = .returned v ∧ OwnN w.heap.size w' v l ∧ Below w.heap.size w w' := by
  subst hn
  obtain ⟨i0, hi, hz0, hz1, hz2⟩ := info_parts infoNd
  have hown0 := Lib.hid (OwnN.fresh w)
  have heq : ∀ W : World, (binOp .eql 23 (.slice (some ad) l.length c) (.slice none 0 0)).run Tryz.prog W = .ok (.bool false) W := fun _ => by kernel_rfl
  go_enter Tryz.func18, Tryz.ntmps18
  go_wp2_with (at_builtin; refine wpList_append_own _ rfl (.tmp 5) (.tmp 6) 23 rfl w.heap.size 42 i0 (.agg #[.int .i64 0, .int .i64 0, .int .i64 0, .int .i64 0, .int .i64 0, .string ByteArray.empty, .string ByteArray.empty, .string ByteArray.empty, .string ByteArray.empty, .int .i64 0]) 10 112 Tryz.underlying23 hi hz0 hz1 hz2 rfl (by decide) _ 0 [] rfl hown0.out ad l.length c (ndL l) rfl (ndL_len l) h.out (ndL_one l) (by unfold maxLen; omega) (by omega) (by simp) ?_)
  intro v' w1 hown1 hgr _
  have hbel : Below w.heap.size w w1 := ((Below.refl _ _).alloc (Nat.le_refl _) _).grown hgr (by simp) (by intro k hk; simp [Value.ownBlock] at hk; omega)
  (try rw [Nat.zero_add, List.nil_append] at hown1)
  have hown1' := Lib.hid hown1; clear hown1 hgr
  go_wp2_with fail
  go_ret
  exact ⟨v', rfl, hown1'.out, hbel⟩
theorem cloneN_any (a : Option Addr) (n c : Nat) (l : List Nd) (w : World) (h : Hid (NArg w a n l)) (hl : n * 112 ≤ 140737488351232) :
    Calls Tryz.prog 18 #[.slice a n c] w fun e w' => ∃ v, e = .returned v ∧ OwnN w.heap.size w' v l ∧ Below w.heap.size w w' := by
  obtain ⟨hn, h1⟩ := h.out
  by_cases h0 : l = []
  · subst h0
    cases a with
    | none => exact cloneN_none n c w hn
    | some ad => exact cloneN_some ad n c [] w hn (Lib.hid (by intro j u hj; simp [ndL] at hj)) (by simp)
  · obtain ⟨b, off, rfl, hs, hb⟩ := Or.resolve_left h1 h0
    refine cloneN_some _ n c l w hn (Lib.hid fun j u hj => ?_) (by omega)
    have e : (⟨b, off, none⟩ : Addr).add j = ⟨b, off + j, none⟩ := by simp [Addr.add]; try omega
    rw [e, World.cell?_alloc_past _ _ _ hb]
    exact ndSl_get hs j u hj
set_option maxRecDepth 100000 in
set_option maxHeartbeats 1000000 in
theorem cloneO_none (n c : Nat) (w : World) (hn : n = 0) :
    Calls Tryz.prog 21 #[.slice none n c] w fun e w' => ∃ v, e = .returned v ∧ OwnO w.heap.size w' v [] ∧ Below w.heap.size w w' := by
  subst hn
  have heq : ∀ W : World, (binOp .eql 22 (.slice none 0 c) (.slice none 0 0)).run Tryz.prog W = .ok (.bool true) W := fun _ => by kernel_rfl
  go_enter Tryz.func21, Tryz.ntmps21
  go_wp2_with fail
  go_ret
  exact ⟨_, rfl, OwnO.nil _ _, Below.refl _ _⟩
set_option maxRecDepth 100000 in
set_option maxHeartbeats 1000000 in
theorem cloneO_some (ad : Addr) (n c : Nat) (l : List Or) (w : World) (hn : n = l.length) (h : Hid (∀ j u, (orL l)[j]? = some u → (w.alloc (.cells #[] 55)).cell? (ad.add j) = some u)) (hl : l.length * 32 ≤ 140737488351232) :
    Calls Tryz.prog 21 #[.slice (some ad) n c] w fun e w' => ∃ v, e = .returned v ∧ OwnO w.heap.size w' v l ∧ Below w.heap.size w w' := by
  subst hn
  obtain ⟨i0, hi, hz0, hz1, hz2⟩ := info_parts infoOr
  have hown0 := Lib.hid (OwnO.fresh w)
  have heq : ∀ W : World, (binOp .eql 22 (.slice (some ad) l.length c) (.slice none 0 0)).run Tryz.prog W = .ok (.bool false) W := fun _ => by kernel_rfl
  go_enter Tryz.func21, Tryz.ntmps21
  go_wp2_with (at_builtin; refine wpList_append_own _ rfl (.tmp 5) (.tmp 6) 22 rfl w.heap.size 55 i0 (.agg #[.string ByteArray.empty, .int .i64 0, .int .i64 0]) 3 32 Tryz.underlying22 hi hz0 hz1 hz2 rfl (by decide) _ 0 [] rfl hown0.out ad l.length c (orL l) rfl (orL_len l) h.out (orL_one l) (by unfold maxLen; omega) (by omega) (by simp) ?_)
  intro v' w1 hown1 hgr _
  have hbel : Below w.heap.size w w1 := ((Below.refl _ _).alloc (Nat.le_refl _) _).grown hgr (by simp) (by intro k hk; simp [Value.ownBlock] at hk; omega)
  (try rw [Nat.zero_add, List.nil_append] at hown1)
  have hown1' := Lib.hid hown1; clear hown1 hgr
  go_wp2_with fail
  go_ret
  exact ⟨v', rfl, hown1'.out, hbel⟩
theorem cloneO_any (a : Option Addr) (n c : Nat) (l : List Or) (w : World) (h : Hid (OArg w a n l)) (hl : n * 32 ≤ 140737488351232) :
    Calls Tryz.prog 21 #[.slice a n c] w fun e w' => ∃ v, e = .returned v ∧ OwnO w.heap.size w' v l ∧ Below w.heap.size w w' := by
  obtain ⟨hn, h1⟩ := h.out
  by_cases h0 : l = []
  · subst h0
    cases a with
    | none => exact cloneO_none n c w hn
    | some ad => exact cloneO_some ad n c [] w hn (Lib.hid (by intro j u hj; simp [orL] at hj)) (by simp)
  · obtain ⟨b, off, rfl, hs, hb⟩ := Or.resolve_left h1 h0
    refine cloneO_some _ n c l w hn (Lib.hid fun j u hj => ?_) (by omega)
    have e : (⟨b, off, none⟩ : Addr).add j = ⟨b, off + j, none⟩ := by simp [Addr.add]; try omega
    rw [e, World.cell?_alloc_past _ _ _ hb]
    exact orSl_get hs j u hj
/-- the names of operations. -/
def opN (os : List Or) : List ByteArray := os.map (·.nm)
theorem opN_take {os : List Or} {j : Nat} (h : j < os.length) : opN (os.take (j + 1)) = opN (os.take j) ++ [(os.getD j or0).nm] := by
  unfold opN
  rw [List.take_succ_eq_append_getElem h, List.map_append, List.getD_eq_getElem?_getD, List.getElem?_eq_getElem h]; rfl
def PlPost (os : List Or) (w : World) (e : Ending) (w' : World) : Prop := ∃ M, e = .returned (.map (some M)) ∧ OpMap w' M (opN os) ∧ w.heap.size ≤ M ∧ Below w.heap.size w w'
set_option maxRecDepth 100000 in
set_option maxHeartbeats 4000000 in
theorem places_any (a : Option Addr) (n c : Nat) (os : List Or) (w : World) (h : Hid (OArg w a n os)) (hsz : Hid (∀ t ∈ os, OrSz t)) (hl : n ≤ 1000000) :
    Calls Tryz.prog 17 #[.slice a n c] w (PlPost os w) := by
  have hmm := @run_makeMap Tryz.prog
  obtain rfl : n = os.length := h.out.1
  have hM0 := Lib.hid (opMap_made w)
  have hB0 := Lib.hid (below_alc w (.map #[] 0))
  have hlt0 : w.heap.size < (w.alloc (.map #[] 0)).heap.size := by simp
  go_enter Tryz.func17, Tryz.ntmps17
  go_wp2_with fail
  generalize w.alloc (.map #[] 0) = w0 at hM0 hB0 hlt0 ⊢
  go_loopw [9] (fun i wr => ∃ j : Nat, j ≤ os.length ∧ i = .int .i64 j ∧ Hid (OpMap wr w.heap.size (opN (os.take j))) ∧ Below w.heap.size w wr) (fun i _ => os.length - (intOf i).toNat)
  case atStart => exact ⟨0, by omega, rfl, hM0, hB0.out⟩
  case round =>
    obtain ⟨j, hj, rfl, hM, hbw⟩ := hrel
    by_cases hlt : j < os.length
    · rcases h.out.2 with h1 | ⟨b, off, rfl, hs, hb⟩
      · rw [h1] at hlt; simp at hlt
      have hO := (hs j hlt).below hbw hb
      have hnx := Lib.hid (opN_take hlt)
      have hz : (os.getD j or0).nm.size ≤ 1125899906842624 := hsz.out _ (getO_mem hlt)
      have hlj : (opN (os.take j)).length = j := by unfold opN; rw [List.length_map, List.length_take]; omega
      generalize os.getD j or0 = t at hO hnx hz
      clear hs
      obtain ⟨e0, e1, e2⟩ := hO
      obtain ⟨wu, hup, hMu, hBu⟩ := op_put (hM.out.below (below_alc wr (.cells #[.string t.nm, .int .i64 t.f, .int .i64 t.t] 55))) t.nm hz (by omega)
      rw [hlj] at hup
      have hMu := Lib.hid hMu
      have hbu : Below w.heap.size w wu := ⟨by rw [hBu.os]; exact hbw.os, by rw [hBu.tape]; exact hbw.tape, by rw [hBu.output]; exact hbw.output, by have := hBu.size; have := hbw.size; simp at *; omega, fun k hk => by
        rw [hBu.block k (by have := hbw.size; simp; omega) (fun e => by have e : k = w.heap.size := e; omega), Below.heap_alloc wr _ k (by have := hbw.size; omega)]; exact hbw.block k hk⟩
      clear hBu hlj
      have hji : (j : Int) < (os.length : Int) := by omega
      have hj0 : (0 : Int) ≤ (j : Int) := by omega
      go_wp2_with fail
      go_roundw
      case rel => exact ⟨j + 1, by omega, by go_num, Lib.hid (by rw [hnx.out]; exact hMu.out), hbu⟩
      case measure => simp [intOf]; omega
    · obtain rfl : j = os.length := by omega
      have hM := hM.out
      rw [List.take_length] at hM
      go_wp2_with fail
      go_ret
      exact ⟨_, rfl, hM, Nat.le_refl _, hbw⟩
end Go.Proofs.YtfajbkpeioejoaaGreatDoor

/- What Resolve tells: plain. -/
namespace Go.Proofs.YtfajbkpeioejoaaGreatDoor
open Go.RowKit
set_option linter.unusedVariables false
set_option linter.unusedSimpArgs false

/-- one name twice. -/
def dupB : List ByteArray → Bool
  | [] => false
  | x :: l => inS l x || dupB l
theorem dupB_iff : ∀ {l : List ByteArray}, dupB l = false ↔ l.Nodup
  | [] => by simp [dupB]
  | x :: l => by
    unfold dupB
    rw [Bool.or_eq_false_iff, inS_no, List.nodup_cons, dupB_iff]
/-- the resolved nodes, or the error's number and place. -/
def resV (os : List Or) (ts : List Nd) : Except (Int × Int) (List Nd) :=
  if mayV os ts then (if dupB (opN os) then .error (602, 0) else resS (opN os) ts.length ts (ts.length - 1) []) else .error (600, 0)
theorem mayV_tree {os : List Or} {ts : List Nd} (h : mayV os ts = true) : 1 ≤ ts.length ∧ ts.length ≤ 512 ∧ os.length ≤ 4 ∧ bg (ksN ts) (ts.length - 1) = 0 := by
  unfold mayV opsV treeV at h
  simp only [Bool.and_eq_true, decide_eq_true_eq] at h
  exact ⟨h.2.1.1.1, h.2.1.1.2, h.1.1, h.2.2⟩
theorem kidsS_kids (t : Nd) : (kidsS t).map (·.1) = kidsL t.k t.a t.b t.c := by
  unfold kidsS kidsL
  have hc : t.k = 3 ∨ t.k = 4 ∨ t.k = 8 ∨ t.k = 5 ∨ t.k = 6 ∨ t.k = 7 ∨ t.k = 9 ∨ t.k = 10 ∨ (t.k ≠ 3 ∧ t.k ≠ 4 ∧ t.k ≠ 8 ∧ t.k ≠ 5 ∧ t.k ≠ 6 ∧ t.k ≠ 7 ∧ t.k ≠ 9 ∧ t.k ≠ 10) := by omega
  rcases hc with h | h | h | h | h | h | h | h | ⟨h1, h2, h3, h4, h5, h6, h7, h8⟩
  all_goals first | (simp [h]; done) | (simp [h1, h2, h3, h4, h5, h6, h7, h8])
theorem downs_of {ts : List Nd} (h : 1 ≤ ts.length) (hb : bg (ksN ts) (ts.length - 1) = 0) : Downs ts := by
  intro i hi c hc
  have hm : c.1 ∈ ksN ts i := by
    show c.1 ∈ kidsL _ _ _ _
    rw [← kidsS_kids]; exact List.mem_map.2 ⟨c, hc, rfl⟩
  have := kid_ok (ksN ts) i (bg_all hb i (by omega)) c.1 hm
  exact ⟨this.1, this.2.1⟩
theorem op_len2 {w : World} {bm : Nat} {l : List ByteArray} (h : OpMap w bm l) : ∃ n : Nat, (∀ ty W, W = w → (Builtin.len_ #[39] ty #[.map (some bm)]).run Tryz.prog W = .ok (.int .i64 n) W) ∧ n ≤ l.length ∧ (n = l.length ↔ l.Nodup) := by
  obtain ⟨D, h1, h2, h2', h3⟩ := h
  exact ⟨_, fun ty W e => by subst e; exact h1.len Tryz.underlying39 ty, h2, h2'⟩
/-- what the call leaves. -/
def ResPost (os : List Or) (r : Except (Int × Int) (List Nd)) (w : World) (e : Ending) (w' : World) : Prop :=
  ∃ ao no co an nn cn at_ code, e = .returned (.tuple #[.agg #[.slice ao no co, .slice an nn cn], .int .i64 at_, .int .i64 code]) ∧ Below w.heap.size w w' ∧
    match r with
    | .ok ss => at_ = 0 ∧ code = 0 ∧ OwnO w.heap.size w' (.slice ao no co) os ∧ ∃ N, an = some ⟨N, 0, none⟩ ∧ nn = ss.length ∧ w.heap.size ≤ N ∧ N < w'.heap.size ∧ NdSl w' N 0 ss ∧ ∀ o, w'.frozen? ⟨N, o, none⟩ = false
    | .error e => at_ = e.2 ∧ code = e.1 ∧ ao = none ∧ no = 0 ∧ co = 0 ∧ an = none ∧ nn = 0 ∧ cn = 0
end Go.Proofs.YtfajbkpeioejoaaGreatDoor
