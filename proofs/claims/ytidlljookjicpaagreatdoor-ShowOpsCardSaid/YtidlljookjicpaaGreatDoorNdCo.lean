/- Nodes' plain facts in forms that can be computed; nodes in a block that was made last; parts of a slice. For seats without the laws of layer 3. -/
import Derived.Test.YtidlljookjicpaaGreatDoorNaG
import Derived.Test.YtidlljookjicpaaGreatDoorNdO
namespace Go.Proofs.YtidlljookjicpaaGreatDoor
open Go.RowKit
set_option linter.unusedVariables false
set_option linter.unusedSimpArgs false

def plainC (kd a b c nm : Int) (s1 s2 s3 s4 : List UInt8) : Bool :=
  if kd = 0 then decide (a = 0 ∧ b = 0 ∧ c = 0 ∧ s2 = [] ∧ s3 = [] ∧ s4 = [])
  else if kd = 1 ∨ kd = 2 then decide (a = 0 ∧ b = 0 ∧ c = 0 ∧ s1 = [] ∧ s2 = [] ∧ s3 = [] ∧ s4 = [])
  else if kd = 3 then decide (b = 0 ∧ c = 0 ∧ nm = 0 ∧ s1 = [] ∧ s3 = [] ∧ s4 = [])
  else if kd = 4 then decide (c = 0 ∧ nm = 0 ∧ s1 = [] ∧ s2 = [] ∧ s3 = [] ∧ s4 = [])
  else if kd = 5 then decide (c = 0 ∧ nm = 0 ∧ s1 = [] ∧ s3 = [] ∧ s4 = [])
  else if kd = 6 then decide (c = 0 ∧ nm = 0 ∧ s1 = [] ∧ s4 = [])
  else if kd = 7 then decide (nm = 0 ∧ s1 = [] ∧ s2 = [] ∧ s3 = [] ∧ s4 = [])
  else if kd = 8 then decide (c = 0 ∧ s1 = [] ∧ s2 = [] ∧ s3 = [] ∧ s4 = [])
  else if kd = 9 then decide (b = 0 ∧ c = 0 ∧ s2 = [] ∧ s3 = [] ∧ s4 = [])
  else decide (kd = 10)
theorem plain_c (kd a b c nm : Int) (s1 s2 s3 s4 : ByteArray) : plainB kd a b c nm s1 s2 s3 s4 = plainC kd a b c nm s1.data.toList s2.data.toList s3.data.toList s4.data.toList := by
  unfold plainB plainC; simp only [ByteArray.toList_eq]
def resC (l : List ByteArray) : Bool := l.all fun s => s.data.toList.isEmpty
theorem res_c (l : List ByteArray) : resB l = resC l := by unfold resB resC; simp only [ByteArray.toList_eq]
def okC (named : Bool) (t : Nd) : Bool := plainC t.k t.a t.b t.c t.n t.nm.data.toList t.x.data.toList t.y.data.toList t.z.data.toList && decide (0 ≤ t.p) && decide (t.p ≤ 4096) && numB t.k t.n && (if named then namedB t.k t.n (namesL t.k t.nm t.x t.y t.z) else resC (namesL t.k t.nm t.x t.y t.z))
theorem ok_c (named : Bool) (t : Nd) : okNd (okNm named) t = okC named t := by
  unfold okNd okNm okC; rw [plain_c, res_c]
def treeC (named : Bool) (ts : List Nd) : Bool := decide (1 ≤ ts.length ∧ ts.length ≤ 512) && ts.all (okC named) && decide (bg (ksN ts) (ts.length - 1) = 0)
theorem tree_c (named : Bool) (ts : List Nd) : treeV (okNm named) ts = treeC named ts := by
  unfold treeV treeC; rw [show okNd (okNm named) = okC named from funext (ok_c named)]
def anyC (ts : List Nd) : Bool := treeC true ts || treeC false ts
theorem any_c (ts : List Nd) : anyV ts = anyC ts := by unfold anyV anyC; rw [tree_c, tree_c]
theorem nd_sz0 : ∀ t ∈ ([] : List Nd), NdSz t := by intro t ht; cases ht
theorem narg0 (w : World) (c : Option Addr) : NArg w c 0 [] := ⟨rfl, .inl rfl⟩
/-- nodes in a block that was made last. -/
theorem narg_alloc (W : World) (arr : Array Value) (ts : List Nd) (h : arr.toList = ndL ts) (n : Nat) (hn : n = ts.length) : NArg (W.alloc (.cells arr 50)) (some ⟨W.heap.size, 0, none⟩) n ts := by
  refine ⟨hn, .inr ⟨W.heap.size, 0, rfl, ndSl_of fun j u hj => ?_, by simp⟩⟩
  rw [Nat.zero_add, World.cell?_alloc_at _ _ _ _ rfl, ← hj, ← h, Array.getElem?_toList]
theorem NArg.take {w : World} {a : Option Addr} {n : Nat} {ts : List Nd} (h : NArg w a n ts) (k : Nat) (hk : k ≤ n) : NArg w a k (ts.take k) := by
  obtain ⟨h1, h2⟩ := h
  refine ⟨by simp; omega, ?_⟩
  rcases h2 with rfl | ⟨b, off, h3, h4, h5⟩
  · exact .inl (by simp)
  · refine .inr ⟨b, off, h3, fun i hi => ?_, h5⟩
    simp at hi
    have := h4 i (by omega)
    have hik : i < k := by omega
    rw [show (ts.take k).getD i nd0 = ts.getD i nd0 from by rw [List.getD_eq_getElem?_getD, List.getElem?_take, if_pos hik, ← List.getD_eq_getElem?_getD]]
    exact this
theorem NArg.drop {w : World} {b off n : Nat} {ts : List Nd} (h : NArg w (some ⟨b, off, none⟩) n ts) (k : Nat) (hk : k ≤ n) : NArg w (some ⟨b, off + k * 10, none⟩) (n - k) (ts.drop k) := by
  obtain ⟨h1, h2⟩ := h
  refine ⟨by simp; omega, ?_⟩
  rcases h2 with rfl | ⟨b', off', h3, h4, h5⟩
  · exact .inl (by simp)
  · injection h3 with h3; injection h3 with h6 h7 _; subst h6; subst h7
    refine .inr ⟨b, off + k * 10, rfl, fun i hi => ?_, h5⟩
    simp at hi
    have := h4 (k + i) (by omega)
    rw [show (ts.drop k).getD i nd0 = ts.getD (k + i) nd0 from by simp [List.getD_eq_getElem?_getD, List.getElem?_drop]]
    unfold NdAt at *
    rw [show off + k * 10 + i * 10 = off + (k + i) * 10 by omega]
    exact this
end Go.Proofs.YtidlljookjicpaaGreatDoor
