/- The program's parser: let, if, let rec, handle. Written by gen_pq.py. -/
import Derived.Test.YtnhfbbognjdnpaaGreatDoorPqA
namespace Go.Proofs.YtnhfbbognjdnpaaGreatDoor
open Go.RowKit
set_option linter.unusedVariables false
set_option linter.unusedSimpArgs false

theorem plet_eq {ts : List Tk} {en : Int} {e : PS → Except PE (Nat × PS)} {beg : Int} {R : Except PE PS} {x1 : ByteArray} {a3 : Int} {a5 : Int} (hv1 : ∀ y st', (R >>= nameP ts en) = .ok (y, st') → x1 = y) (hv3 : ∀ n st', (((stX (R >>= nameP ts en)) >>= wantP ts en sgEq) >>= e) = .ok (n, st') → a3 = (n : Nat)) (hv5 : ∀ n st', (((stX (((stX (R >>= nameP ts en)) >>= wantP ts en sgEq) >>= e)) >>= wantP ts en kwIn) >>= e) = .ok (n, st') → a5 = (n : Nat)) :
    ((stX (((stX (((stX (R >>= nameP ts en)) >>= wantP ts en sgEq) >>= e)) >>= wantP ts en kwIn) >>= e)) >>= putP ts en ⟨5, a3, a5, 0, 0, ⟨#[]⟩, x1, ⟨#[]⟩, ⟨#[]⟩, beg⟩) = (R >>= letP ts en e beg) := by
  rcases R with _ | st
  · rfl
  simp only [bind, Except.bind, stX] at hv1 hv3 hv5 ⊢
  simp only [letP, bind, Except.bind]
  rcases h1 : nameP ts en st with _ | ⟨y1, s1⟩
  · simp only [h1]
  simp only [h1]
  try simp only [h1] at hv1
  try simp only [h1] at hv3
  try simp only [h1] at hv5
  obtain rfl := hv1 _ _ rfl
  rcases h2 : wantP ts en sgEq s1 with _ | s2
  · simp only [h2]
  simp only [h2]
  try simp only [h2] at hv3
  try simp only [h2] at hv5
  rcases h3 : e s2 with _ | ⟨y3, s3⟩
  · simp only [h3]
  simp only [h3]
  try simp only [h3] at hv3
  try simp only [h3] at hv5
  obtain rfl := hv3 _ _ rfl
  rcases h4 : wantP ts en kwIn s3 with _ | s4
  · simp only [h4]
  simp only [h4]
  try simp only [h4] at hv5
  rcases h5 : e s4 with _ | ⟨y5, s5⟩
  · simp only [h5]
  simp only [h5]
  try simp only [h5] at hv5
  obtain rfl := hv5 _ _ rfl
  first | rfl | done
set_option maxRecDepth 100000 in
set_option maxHeartbeats 4000000 in
theorem plet_any (B G : Nat) (tv : Value) (ts : List Tk) (en : Int) (ov : Value) (d : Int) (e : PS → Except PE (Nat × PS)) (kE : Hid (ExC B G tv ts en ov 29 d e)) (beg : Int) (w : World) (nv : Value) (R : Except PE PS) (h : Hid (PqX B G tv ts en ov d w nv R)) :
    Calls Tryz.prog 72 #[.pointer (some ⟨G, 0, none⟩), .int .i64 beg] w (PqN B G tv ts en ov d w nv (R >>= letP ts en e beg)) := by
  have hx0 := Lib.hid (NdBox.new h.out ⟨5, 0, 0, 0, 0, ⟨#[]⟩, ⟨#[]⟩, ⟨#[]⟩, ⟨#[]⟩, beg⟩)
  have hp0 := Lib.hid (h.out.below (below_alc w (.cells #[.int .i64 5, .int .i64 0, .int .i64 0, .int .i64 0, .int .i64 0, .string ⟨#[]⟩, .string ⟨#[]⟩, .string ⟨#[]⟩, .string ⟨#[]⟩, .int .i64 beg] 66)))
  have hS0 := Lib.hid (show Stp G w nv (w.alloc (.cells #[.int .i64 5, .int .i64 0, .int .i64 0, .int .i64 0, .int .i64 0, .string ⟨#[]⟩, .string ⟨#[]⟩, .string ⟨#[]⟩, .string ⟨#[]⟩, .int .i64 beg] 66)) nv from Stp.below (below_alc w (.cells #[.int .i64 5, .int .i64 0, .int .i64 0, .int .i64 0, .int .i64 0, .string ⟨#[]⟩, .string ⟨#[]⟩, .string ⟨#[]⟩, .string ⟨#[]⟩, .int .i64 beg] 66)))
  have hBw := Lib.hid h.out.lt.2.1
  go_enter Tryz.func72, Tryz.ntmps72
  go_wp2_with fail
  refine (pname_any B G tv ts en ov d _ nv _ hp0).mono ?_
  rintro e1 w1 ⟨x1, rfl, ⟨hq1, hb1⟩, hv1⟩
  have hs1 := Lib.hid (show Stp G _ nv w1 nv from Stp.of hb1)
  clear hb1
  have hv1 := Lib.hid hv1
  have hy1 := Lib.hid (hx0.out.step hs1.out)
  have hx1 := Lib.hid (hy1.out.set6 x1)
  have hp1 := Lib.hid (hq1.box hy1.out hBw.out 6 (.string x1))
  have hS1 := Lib.hid ((hS0.out.trans hs1.out).store (Nat.le_refl w.heap.size) 6 (.string x1))
  have cs := hy1.out.c6; have cf := hy1.out.fz; have cl := hy1.out.lt
  clear hx0 hS0 hp0 hs1 hq1
  clear hy1
  go_wp2_with fail
  clear cs cf cl
  refine (take_any B G tv ts en ov d _ nv _ sgEq hp1).mono ?_
  rintro e2 w2 ⟨rfl, hq2, hb2⟩
  have hs2 := Lib.hid (show Stp G _ nv w2 nv from Stp.of hb2)
  have hx2 := Lib.hid (hx1.out.step hs2.out)
  have hS2 := Lib.hid (hS1.out.trans hs2.out)
  have hp2 := Lib.hid hq2
  clear hx1 hS1 hp1 hs2 hb2 hq2
  go_wp2_with fail
  refine (kE.out _ nv _ hp2.out).mono ?_
  rintro e3 w3 ⟨a3, nv3, rfl, hq3, hs3, hv3⟩
  have hs3 := Lib.hid hs3
  have hv3 := Lib.hid hv3
  have hy3 := Lib.hid (hx2.out.step hs3.out)
  have hx3 := Lib.hid (hy3.out.set1 a3)
  have hp3 := Lib.hid (hq3.box hy3.out hBw.out 1 (.int .i64 a3))
  have hS3 := Lib.hid ((hS2.out.trans hs3.out).store (Nat.le_refl w.heap.size) 1 (.int .i64 a3))
  have cs := hy3.out.c1; have cf := hy3.out.fz; have cl := hy3.out.lt
  clear hx2 hS2 hp2 hs3 hq3
  clear hy3
  go_wp2_with fail
  clear cs cf cl
  refine (take_any B G tv ts en ov d _ nv3 _ kwIn hp3).mono ?_
  rintro e4 w4 ⟨rfl, hq4, hb4⟩
  have hs4 := Lib.hid (show Stp G _ nv3 w4 nv3 from Stp.of hb4)
  have hx4 := Lib.hid (hx3.out.step hs4.out)
  have hS4 := Lib.hid (hS3.out.trans hs4.out)
  have hp4 := Lib.hid hq4
  clear hx3 hS3 hp3 hs4 hb4 hq4
  go_wp2_with fail
  refine (kE.out _ nv3 _ hp4.out).mono ?_
  rintro e5 w5 ⟨a5, nv5, rfl, hq5, hs5, hv5⟩
  have hs5 := Lib.hid hs5
  have hv5 := Lib.hid hv5
  have hy5 := Lib.hid (hx4.out.step hs5.out)
  have hx5 := Lib.hid (hy5.out.set2 a5)
  have hp5 := Lib.hid (hq5.box hy5.out hBw.out 2 (.int .i64 a5))
  have hS5 := Lib.hid ((hS4.out.trans hs5.out).store (Nat.le_refl w.heap.size) 2 (.int .i64 a5))
  clear hx4 hS4 hp4 hs5 hq5
  have c0 := hy5.out.c0
  have c1 := hy5.out.c1
  have c2 := hy5.out.c2
  have c3 := hy5.out.c3
  have c4 := hy5.out.c4
  have c5 := hy5.out.c5
  have c6 := hy5.out.c6
  have c7 := hy5.out.c7
  have c8 := hy5.out.c8
  have c9 := hy5.out.c9
  have cf := hy5.out.fz; have cl := hy5.out.lt
  dsimp only at c0 c1 c2 c3 c4 c5 c6 c7 c8 c9
  have k4 := Lib.hid (node_any B G tv ts en ov d _ nv5 _ ⟨5, a3, a5, 0, 0, ⟨#[]⟩, x1, ⟨#[]⟩, ⟨#[]⟩, beg⟩ hp5)
  have he := Lib.hid (plet_eq (ts := ts) (en := en) (e := e) (beg := beg) (R := R) hv1.out hv3.out hv5.out)
  go_wp2_with fail
  refine k4.out.mono ?_
  rintro e4 w4 ⟨v, nv4, rfl, hp4, hs4, hv4⟩
  have hfin : Hid (PqN B G tv ts en ov d w nv (R >>= letP ts en e beg) (.returned (.int .i64 v)) w4) := Lib.hid (by rw [← he.out]; exact ⟨v, nv4, rfl, hp4, hS5.out.trans hs4, hv4⟩)
  clear k4 hp4 hs4 hv4 he c0 c1 c2 c3 c4 c5 c6 c7 c8 c9 cf cl
  go_wp2_with fail
  go_ret
  exact hfin.out
theorem pif_eq {ts : List Tk} {en : Int} {e : PS → Except PE (Nat × PS)} {beg : Int} {R : Except PE PS} {a1 : Int} {a3 : Int} {a5 : Int} (hv1 : ∀ n st', (R >>= e) = .ok (n, st') → a1 = (n : Nat)) (hv3 : ∀ n st', (((stX (R >>= e)) >>= wantP ts en kwThen) >>= e) = .ok (n, st') → a3 = (n : Nat)) (hv5 : ∀ n st', (((stX (((stX (R >>= e)) >>= wantP ts en kwThen) >>= e)) >>= wantP ts en kwElse) >>= e) = .ok (n, st') → a5 = (n : Nat)) :
    ((stX (((stX (((stX (R >>= e)) >>= wantP ts en kwThen) >>= e)) >>= wantP ts en kwElse) >>= e)) >>= putP ts en ⟨7, a1, a3, a5, 0, ⟨#[]⟩, ⟨#[]⟩, ⟨#[]⟩, ⟨#[]⟩, beg⟩) = (R >>= ifP ts en e beg) := by
  rcases R with _ | st
  · rfl
  simp only [bind, Except.bind, stX] at hv1 hv3 hv5 ⊢
  simp only [ifP, bind, Except.bind]
  rcases h1 : e st with _ | ⟨y1, s1⟩
  · simp only [h1]
  simp only [h1]
  try simp only [h1] at hv1
  try simp only [h1] at hv3
  try simp only [h1] at hv5
  obtain rfl := hv1 _ _ rfl
  rcases h2 : wantP ts en kwThen s1 with _ | s2
  · simp only [h2]
  simp only [h2]
  try simp only [h2] at hv3
  try simp only [h2] at hv5
  rcases h3 : e s2 with _ | ⟨y3, s3⟩
  · simp only [h3]
  simp only [h3]
  try simp only [h3] at hv3
  try simp only [h3] at hv5
  obtain rfl := hv3 _ _ rfl
  rcases h4 : wantP ts en kwElse s3 with _ | s4
  · simp only [h4]
  simp only [h4]
  try simp only [h4] at hv5
  rcases h5 : e s4 with _ | ⟨y5, s5⟩
  · simp only [h5]
  simp only [h5]
  try simp only [h5] at hv5
  obtain rfl := hv5 _ _ rfl
  first | rfl | done
set_option maxRecDepth 100000 in
set_option maxHeartbeats 4000000 in
theorem pif_any (B G : Nat) (tv : Value) (ts : List Tk) (en : Int) (ov : Value) (d : Int) (e : PS → Except PE (Nat × PS)) (kE : Hid (ExC B G tv ts en ov 29 d e)) (beg : Int) (w : World) (nv : Value) (R : Except PE PS) (h : Hid (PqX B G tv ts en ov d w nv R)) :
    Calls Tryz.prog 73 #[.pointer (some ⟨G, 0, none⟩), .int .i64 beg] w (PqN B G tv ts en ov d w nv (R >>= ifP ts en e beg)) := by
  have hx0 := Lib.hid (NdBox.new h.out ⟨7, 0, 0, 0, 0, ⟨#[]⟩, ⟨#[]⟩, ⟨#[]⟩, ⟨#[]⟩, beg⟩)
  have hp0 := Lib.hid (h.out.below (below_alc w (.cells #[.int .i64 7, .int .i64 0, .int .i64 0, .int .i64 0, .int .i64 0, .string ⟨#[]⟩, .string ⟨#[]⟩, .string ⟨#[]⟩, .string ⟨#[]⟩, .int .i64 beg] 66)))
  have hS0 := Lib.hid (show Stp G w nv (w.alloc (.cells #[.int .i64 7, .int .i64 0, .int .i64 0, .int .i64 0, .int .i64 0, .string ⟨#[]⟩, .string ⟨#[]⟩, .string ⟨#[]⟩, .string ⟨#[]⟩, .int .i64 beg] 66)) nv from Stp.below (below_alc w (.cells #[.int .i64 7, .int .i64 0, .int .i64 0, .int .i64 0, .int .i64 0, .string ⟨#[]⟩, .string ⟨#[]⟩, .string ⟨#[]⟩, .string ⟨#[]⟩, .int .i64 beg] 66)))
  have hBw := Lib.hid h.out.lt.2.1
  go_enter Tryz.func73, Tryz.ntmps73
  go_wp2_with fail
  refine (kE.out _ nv _ hp0.out).mono ?_
  rintro e1 w1 ⟨a1, nv1, rfl, hq1, hs1, hv1⟩
  have hs1 := Lib.hid hs1
  have hv1 := Lib.hid hv1
  have hy1 := Lib.hid (hx0.out.step hs1.out)
  have hx1 := Lib.hid (hy1.out.set1 a1)
  have hp1 := Lib.hid (hq1.box hy1.out hBw.out 1 (.int .i64 a1))
  have hS1 := Lib.hid ((hS0.out.trans hs1.out).store (Nat.le_refl w.heap.size) 1 (.int .i64 a1))
  have cs := hy1.out.c1; have cf := hy1.out.fz; have cl := hy1.out.lt
  clear hx0 hS0 hp0 hs1 hq1
  clear hy1
  go_wp2_with fail
  clear cs cf cl
  refine (take_any B G tv ts en ov d _ nv1 _ kwThen hp1).mono ?_
  rintro e2 w2 ⟨rfl, hq2, hb2⟩
  have hs2 := Lib.hid (show Stp G _ nv1 w2 nv1 from Stp.of hb2)
  have hx2 := Lib.hid (hx1.out.step hs2.out)
  have hS2 := Lib.hid (hS1.out.trans hs2.out)
  have hp2 := Lib.hid hq2
  clear hx1 hS1 hp1 hs2 hb2 hq2
  go_wp2_with fail
  refine (kE.out _ nv1 _ hp2.out).mono ?_
  rintro e3 w3 ⟨a3, nv3, rfl, hq3, hs3, hv3⟩
  have hs3 := Lib.hid hs3
  have hv3 := Lib.hid hv3
  have hy3 := Lib.hid (hx2.out.step hs3.out)
  have hx3 := Lib.hid (hy3.out.set2 a3)
  have hp3 := Lib.hid (hq3.box hy3.out hBw.out 2 (.int .i64 a3))
  have hS3 := Lib.hid ((hS2.out.trans hs3.out).store (Nat.le_refl w.heap.size) 2 (.int .i64 a3))
  have cs := hy3.out.c2; have cf := hy3.out.fz; have cl := hy3.out.lt
  clear hx2 hS2 hp2 hs3 hq3
  clear hy3
  go_wp2_with fail
  clear cs cf cl
  refine (take_any B G tv ts en ov d _ nv3 _ kwElse hp3).mono ?_
  rintro e4 w4 ⟨rfl, hq4, hb4⟩
  have hs4 := Lib.hid (show Stp G _ nv3 w4 nv3 from Stp.of hb4)
  have hx4 := Lib.hid (hx3.out.step hs4.out)
  have hS4 := Lib.hid (hS3.out.trans hs4.out)
  have hp4 := Lib.hid hq4
  clear hx3 hS3 hp3 hs4 hb4 hq4
  go_wp2_with fail
  refine (kE.out _ nv3 _ hp4.out).mono ?_
  rintro e5 w5 ⟨a5, nv5, rfl, hq5, hs5, hv5⟩
  have hs5 := Lib.hid hs5
  have hv5 := Lib.hid hv5
  have hy5 := Lib.hid (hx4.out.step hs5.out)
  have hx5 := Lib.hid (hy5.out.set3 a5)
  have hp5 := Lib.hid (hq5.box hy5.out hBw.out 3 (.int .i64 a5))
  have hS5 := Lib.hid ((hS4.out.trans hs5.out).store (Nat.le_refl w.heap.size) 3 (.int .i64 a5))
  clear hx4 hS4 hp4 hs5 hq5
  have c0 := hy5.out.c0
  have c1 := hy5.out.c1
  have c2 := hy5.out.c2
  have c3 := hy5.out.c3
  have c4 := hy5.out.c4
  have c5 := hy5.out.c5
  have c6 := hy5.out.c6
  have c7 := hy5.out.c7
  have c8 := hy5.out.c8
  have c9 := hy5.out.c9
  have cf := hy5.out.fz; have cl := hy5.out.lt
  dsimp only at c0 c1 c2 c3 c4 c5 c6 c7 c8 c9
  have k4 := Lib.hid (node_any B G tv ts en ov d _ nv5 _ ⟨7, a1, a3, a5, 0, ⟨#[]⟩, ⟨#[]⟩, ⟨#[]⟩, ⟨#[]⟩, beg⟩ hp5)
  have he := Lib.hid (pif_eq (ts := ts) (en := en) (e := e) (beg := beg) (R := R) hv1.out hv3.out hv5.out)
  go_wp2_with fail
  refine k4.out.mono ?_
  rintro e4 w4 ⟨v, nv4, rfl, hp4, hs4, hv4⟩
  have hfin : Hid (PqN B G tv ts en ov d w nv (R >>= ifP ts en e beg) (.returned (.int .i64 v)) w4) := Lib.hid (by rw [← he.out]; exact ⟨v, nv4, rfl, hp4, hS5.out.trans hs4, hv4⟩)
  clear k4 hp4 hs4 hv4 he c0 c1 c2 c3 c4 c5 c6 c7 c8 c9 cf cl
  go_wp2_with fail
  go_ret
  exact hfin.out
theorem prec_eq {ts : List Tk} {en : Int} {e : PS → Except PE (Nat × PS)} {beg : Int} {R : Except PE PS} {x1 : ByteArray} {x2 : ByteArray} {a4 : Int} {a6 : Int} (hv1 : ∀ y st', (R >>= nameP ts en) = .ok (y, st') → x1 = y) (hv2 : ∀ y st', ((stX (R >>= nameP ts en)) >>= nameP ts en) = .ok (y, st') → x2 = y) (hv4 : ∀ n st', (((stX ((stX (R >>= nameP ts en)) >>= nameP ts en)) >>= wantP ts en sgEq) >>= e) = .ok (n, st') → a4 = (n : Nat)) (hv6 : ∀ n st', (((stX (((stX ((stX (R >>= nameP ts en)) >>= nameP ts en)) >>= wantP ts en sgEq) >>= e)) >>= wantP ts en kwIn) >>= e) = .ok (n, st') → a6 = (n : Nat)) :
    ((stX (((stX (((stX ((stX (R >>= nameP ts en)) >>= nameP ts en)) >>= wantP ts en sgEq) >>= e)) >>= wantP ts en kwIn) >>= e)) >>= putP ts en ⟨6, a4, a6, 0, 0, ⟨#[]⟩, x1, x2, ⟨#[]⟩, beg⟩) = (R >>= recP ts en e beg) := by
  rcases R with _ | st
  · rfl
  simp only [bind, Except.bind, stX] at hv1 hv2 hv4 hv6 ⊢
  simp only [recP, bind, Except.bind]
  rcases h1 : nameP ts en st with _ | ⟨y1, s1⟩
  · simp only [h1]
  simp only [h1]
  try simp only [h1] at hv1
  try simp only [h1] at hv2
  try simp only [h1] at hv4
  try simp only [h1] at hv6
  obtain rfl := hv1 _ _ rfl
  rcases h2 : nameP ts en s1 with _ | ⟨y2, s2⟩
  · simp only [h2]
  simp only [h2]
  try simp only [h2] at hv2
  try simp only [h2] at hv4
  try simp only [h2] at hv6
  obtain rfl := hv2 _ _ rfl
  rcases h3 : wantP ts en sgEq s2 with _ | s3
  · simp only [h3]
  simp only [h3]
  try simp only [h3] at hv4
  try simp only [h3] at hv6
  rcases h4 : e s3 with _ | ⟨y4, s4⟩
  · simp only [h4]
  simp only [h4]
  try simp only [h4] at hv4
  try simp only [h4] at hv6
  obtain rfl := hv4 _ _ rfl
  rcases h5 : wantP ts en kwIn s4 with _ | s5
  · simp only [h5]
  simp only [h5]
  try simp only [h5] at hv6
  rcases h6 : e s5 with _ | ⟨y6, s6⟩
  · simp only [h6]
  simp only [h6]
  try simp only [h6] at hv6
  obtain rfl := hv6 _ _ rfl
  first | rfl | done
set_option maxRecDepth 100000 in
set_option maxHeartbeats 4000000 in
theorem prec_any (B G : Nat) (tv : Value) (ts : List Tk) (en : Int) (ov : Value) (d : Int) (e : PS → Except PE (Nat × PS)) (kE : Hid (ExC B G tv ts en ov 29 d e)) (beg : Int) (w : World) (nv : Value) (R : Except PE PS) (h : Hid (PqX B G tv ts en ov d w nv R)) :
    Calls Tryz.prog 71 #[.pointer (some ⟨G, 0, none⟩), .int .i64 beg] w (PqN B G tv ts en ov d w nv (R >>= recP ts en e beg)) := by
  have hx0 := Lib.hid (NdBox.new h.out ⟨6, 0, 0, 0, 0, ⟨#[]⟩, ⟨#[]⟩, ⟨#[]⟩, ⟨#[]⟩, beg⟩)
  have hp0 := Lib.hid (h.out.below (below_alc w (.cells #[.int .i64 6, .int .i64 0, .int .i64 0, .int .i64 0, .int .i64 0, .string ⟨#[]⟩, .string ⟨#[]⟩, .string ⟨#[]⟩, .string ⟨#[]⟩, .int .i64 beg] 66)))
  have hS0 := Lib.hid (show Stp G w nv (w.alloc (.cells #[.int .i64 6, .int .i64 0, .int .i64 0, .int .i64 0, .int .i64 0, .string ⟨#[]⟩, .string ⟨#[]⟩, .string ⟨#[]⟩, .string ⟨#[]⟩, .int .i64 beg] 66)) nv from Stp.below (below_alc w (.cells #[.int .i64 6, .int .i64 0, .int .i64 0, .int .i64 0, .int .i64 0, .string ⟨#[]⟩, .string ⟨#[]⟩, .string ⟨#[]⟩, .string ⟨#[]⟩, .int .i64 beg] 66)))
  have hBw := Lib.hid h.out.lt.2.1
  go_enter Tryz.func71, Tryz.ntmps71
  go_wp2_with fail
  refine (pname_any B G tv ts en ov d _ nv _ hp0).mono ?_
  rintro e1 w1 ⟨x1, rfl, ⟨hq1, hb1⟩, hv1⟩
  have hs1 := Lib.hid (show Stp G _ nv w1 nv from Stp.of hb1)
  clear hb1
  have hv1 := Lib.hid hv1
  have hy1 := Lib.hid (hx0.out.step hs1.out)
  have hx1 := Lib.hid (hy1.out.set6 x1)
  have hp1 := Lib.hid (hq1.box hy1.out hBw.out 6 (.string x1))
  have hS1 := Lib.hid ((hS0.out.trans hs1.out).store (Nat.le_refl w.heap.size) 6 (.string x1))
  have cs := hy1.out.c6; have cf := hy1.out.fz; have cl := hy1.out.lt
  clear hx0 hS0 hp0 hs1 hq1
  clear hy1
  go_wp2_with fail
  clear cs cf cl
  refine (pname_any B G tv ts en ov d _ nv _ hp1).mono ?_
  rintro e2 w2 ⟨x2, rfl, ⟨hq2, hb2⟩, hv2⟩
  have hs2 := Lib.hid (show Stp G _ nv w2 nv from Stp.of hb2)
  clear hb2
  have hv2 := Lib.hid hv2
  have hy2 := Lib.hid (hx1.out.step hs2.out)
  have hx2 := Lib.hid (hy2.out.set7 x2)
  have hp2 := Lib.hid (hq2.box hy2.out hBw.out 7 (.string x2))
  have hS2 := Lib.hid ((hS1.out.trans hs2.out).store (Nat.le_refl w.heap.size) 7 (.string x2))
  have cs := hy2.out.c7; have cf := hy2.out.fz; have cl := hy2.out.lt
  clear hx1 hS1 hp1 hs2 hq2
  clear hy2
  go_wp2_with fail
  clear cs cf cl
  refine (take_any B G tv ts en ov d _ nv _ sgEq hp2).mono ?_
  rintro e3 w3 ⟨rfl, hq3, hb3⟩
  have hs3 := Lib.hid (show Stp G _ nv w3 nv from Stp.of hb3)
  have hx3 := Lib.hid (hx2.out.step hs3.out)
  have hS3 := Lib.hid (hS2.out.trans hs3.out)
  have hp3 := Lib.hid hq3
  clear hx2 hS2 hp2 hs3 hb3 hq3
  go_wp2_with fail
  refine (kE.out _ nv _ hp3.out).mono ?_
  rintro e4 w4 ⟨a4, nv4, rfl, hq4, hs4, hv4⟩
  have hs4 := Lib.hid hs4
  have hv4 := Lib.hid hv4
  have hy4 := Lib.hid (hx3.out.step hs4.out)
  have hx4 := Lib.hid (hy4.out.set1 a4)
  have hp4 := Lib.hid (hq4.box hy4.out hBw.out 1 (.int .i64 a4))
  have hS4 := Lib.hid ((hS3.out.trans hs4.out).store (Nat.le_refl w.heap.size) 1 (.int .i64 a4))
  have cs := hy4.out.c1; have cf := hy4.out.fz; have cl := hy4.out.lt
  clear hx3 hS3 hp3 hs4 hq4
  clear hy4
  go_wp2_with fail
  clear cs cf cl
  refine (take_any B G tv ts en ov d _ nv4 _ kwIn hp4).mono ?_
  rintro e5 w5 ⟨rfl, hq5, hb5⟩
  have hs5 := Lib.hid (show Stp G _ nv4 w5 nv4 from Stp.of hb5)
  have hx5 := Lib.hid (hx4.out.step hs5.out)
  have hS5 := Lib.hid (hS4.out.trans hs5.out)
  have hp5 := Lib.hid hq5
  clear hx4 hS4 hp4 hs5 hb5 hq5
  go_wp2_with fail
  refine (kE.out _ nv4 _ hp5.out).mono ?_
  rintro e6 w6 ⟨a6, nv6, rfl, hq6, hs6, hv6⟩
  have hs6 := Lib.hid hs6
  have hv6 := Lib.hid hv6
  have hy6 := Lib.hid (hx5.out.step hs6.out)
  have hx6 := Lib.hid (hy6.out.set2 a6)
  have hp6 := Lib.hid (hq6.box hy6.out hBw.out 2 (.int .i64 a6))
  have hS6 := Lib.hid ((hS5.out.trans hs6.out).store (Nat.le_refl w.heap.size) 2 (.int .i64 a6))
  clear hx5 hS5 hp5 hs6 hq6
  have c0 := hy6.out.c0
  have c1 := hy6.out.c1
  have c2 := hy6.out.c2
  have c3 := hy6.out.c3
  have c4 := hy6.out.c4
  have c5 := hy6.out.c5
  have c6 := hy6.out.c6
  have c7 := hy6.out.c7
  have c8 := hy6.out.c8
  have c9 := hy6.out.c9
  have cf := hy6.out.fz; have cl := hy6.out.lt
  dsimp only at c0 c1 c2 c3 c4 c5 c6 c7 c8 c9
  have k4 := Lib.hid (node_any B G tv ts en ov d _ nv6 _ ⟨6, a4, a6, 0, 0, ⟨#[]⟩, x1, x2, ⟨#[]⟩, beg⟩ hp6)
  have he := Lib.hid (prec_eq (ts := ts) (en := en) (e := e) (beg := beg) (R := R) hv1.out hv2.out hv4.out hv6.out)
  go_wp2_with fail
  refine k4.out.mono ?_
  rintro e4 w4 ⟨v, nv4, rfl, hp4, hs4, hv4⟩
  have hfin : Hid (PqN B G tv ts en ov d w nv (R >>= recP ts en e beg) (.returned (.int .i64 v)) w4) := Lib.hid (by rw [← he.out]; exact ⟨v, nv4, rfl, hp4, hS6.out.trans hs4, hv4⟩)
  clear k4 hp4 hs4 hv4 he c0 c1 c2 c3 c4 c5 c6 c7 c8 c9 cf cl
  go_wp2_with fail
  go_ret
  exact hfin.out
theorem phandle_eq {ts : List Tk} {en : Int} {e : PS → Except PE (Nat × PS)} {beg : Int} {R : Except PE PS} {a1 : Int} {x3 : ByteArray} {x4 : ByteArray} {x5 : ByteArray} {a7 : Int} {x9 : ByteArray} {a11 : Int} (hv1 : ∀ n st', (R >>= e) = .ok (n, st') → a1 = (n : Nat)) (hv3 : ∀ y st', (((stX (R >>= e)) >>= wantP ts en kwWith) >>= nameP ts en) = .ok (y, st') → x3 = y) (hv4 : ∀ y st', ((stX (((stX (R >>= e)) >>= wantP ts en kwWith) >>= nameP ts en)) >>= nameP ts en) = .ok (y, st') → x4 = y) (hv5 : ∀ y st', ((stX ((stX (((stX (R >>= e)) >>= wantP ts en kwWith) >>= nameP ts en)) >>= nameP ts en)) >>= nameP ts en) = .ok (y, st') → x5 = y) (hv7 : ∀ n st', (((stX ((stX ((stX (((stX (R >>= e)) >>= wantP ts en kwWith) >>= nameP ts en)) >>= nameP ts en)) >>= nameP ts en)) >>= wantP ts en sgArrow) >>= e) = .ok (n, st') → a7 = (n : Nat)) (hv9 : ∀ y st', (((stX (((stX ((stX ((stX (((stX (R >>= e)) >>= wantP ts en kwWith) >>= nameP ts en)) >>= nameP ts en)) >>= nameP ts en)) >>= wantP ts en sgArrow) >>= e)) >>= wantP ts en kwReturn) >>= nameP ts en) = .ok (y, st') → x9 = y) (hv11 : ∀ n st', (((stX (((stX (((stX ((stX ((stX (((stX (R >>= e)) >>= wantP ts en kwWith) >>= nameP ts en)) >>= nameP ts en)) >>= nameP ts en)) >>= wantP ts en sgArrow) >>= e)) >>= wantP ts en kwReturn) >>= nameP ts en)) >>= wantP ts en sgArrow) >>= e) = .ok (n, st') → a11 = (n : Nat)) :
    (((stX (((stX (((stX (((stX ((stX ((stX (((stX (R >>= e)) >>= wantP ts en kwWith) >>= nameP ts en)) >>= nameP ts en)) >>= nameP ts en)) >>= wantP ts en sgArrow) >>= e)) >>= wantP ts en kwReturn) >>= nameP ts en)) >>= wantP ts en sgArrow) >>= e)) >>= wantP ts en kwEnd) >>= putP ts en ⟨10, a1, a7, a11, 0, x3, x4, x5, x9, beg⟩) = (R >>= handleP ts en e beg) := by
  rcases R with _ | st
  · rfl
  simp only [bind, Except.bind, stX] at hv1 hv3 hv4 hv5 hv7 hv9 hv11 ⊢
  simp only [handleP, bind, Except.bind]
  rcases h1 : e st with _ | ⟨y1, s1⟩
  · simp only [h1]
  simp only [h1]
  try simp only [h1] at hv1
  try simp only [h1] at hv3
  try simp only [h1] at hv4
  try simp only [h1] at hv5
  try simp only [h1] at hv7
  try simp only [h1] at hv9
  try simp only [h1] at hv11
  obtain rfl := hv1 _ _ rfl
  rcases h2 : wantP ts en kwWith s1 with _ | s2
  · simp only [h2]
  simp only [h2]
  try simp only [h2] at hv3
  try simp only [h2] at hv4
  try simp only [h2] at hv5
  try simp only [h2] at hv7
  try simp only [h2] at hv9
  try simp only [h2] at hv11
  rcases h3 : nameP ts en s2 with _ | ⟨y3, s3⟩
  · simp only [h3]
  simp only [h3]
  try simp only [h3] at hv3
  try simp only [h3] at hv4
  try simp only [h3] at hv5
  try simp only [h3] at hv7
  try simp only [h3] at hv9
  try simp only [h3] at hv11
  obtain rfl := hv3 _ _ rfl
  rcases h4 : nameP ts en s3 with _ | ⟨y4, s4⟩
  · simp only [h4]
  simp only [h4]
  try simp only [h4] at hv4
  try simp only [h4] at hv5
  try simp only [h4] at hv7
  try simp only [h4] at hv9
  try simp only [h4] at hv11
  obtain rfl := hv4 _ _ rfl
  rcases h5 : nameP ts en s4 with _ | ⟨y5, s5⟩
  · simp only [h5]
  simp only [h5]
  try simp only [h5] at hv5
  try simp only [h5] at hv7
  try simp only [h5] at hv9
  try simp only [h5] at hv11
  obtain rfl := hv5 _ _ rfl
  rcases h6 : wantP ts en sgArrow s5 with _ | s6
  · simp only [h6]
  simp only [h6]
  try simp only [h6] at hv7
  try simp only [h6] at hv9
  try simp only [h6] at hv11
  rcases h7 : e s6 with _ | ⟨y7, s7⟩
  · simp only [h7]
  simp only [h7]
  try simp only [h7] at hv7
  try simp only [h7] at hv9
  try simp only [h7] at hv11
  obtain rfl := hv7 _ _ rfl
  rcases h8 : wantP ts en kwReturn s7 with _ | s8
  · simp only [h8]
  simp only [h8]
  try simp only [h8] at hv9
  try simp only [h8] at hv11
  rcases h9 : nameP ts en s8 with _ | ⟨y9, s9⟩
  · simp only [h9]
  simp only [h9]
  try simp only [h9] at hv9
  try simp only [h9] at hv11
  obtain rfl := hv9 _ _ rfl
  rcases h10 : wantP ts en sgArrow s9 with _ | s10
  · simp only [h10]
  simp only [h10]
  try simp only [h10] at hv11
  rcases h11 : e s10 with _ | ⟨y11, s11⟩
  · simp only [h11]
  simp only [h11]
  try simp only [h11] at hv11
  obtain rfl := hv11 _ _ rfl
  rcases h12 : wantP ts en kwEnd s11 with _ | s12
  · simp only [h12]
  simp only [h12]
  first | rfl | done
set_option maxRecDepth 100000 in
set_option maxHeartbeats 4000000 in
theorem phandle_any (B G : Nat) (tv : Value) (ts : List Tk) (en : Int) (ov : Value) (d : Int) (e : PS → Except PE (Nat × PS)) (kE : Hid (ExC B G tv ts en ov 29 d e)) (beg : Int) (w : World) (nv : Value) (R : Except PE PS) (h : Hid (PqX B G tv ts en ov d w nv R)) :
    Calls Tryz.prog 93 #[.pointer (some ⟨G, 0, none⟩), .int .i64 beg] w (PqN B G tv ts en ov d w nv (R >>= handleP ts en e beg)) := by
  have hx0 := Lib.hid (NdBox.new h.out ⟨10, 0, 0, 0, 0, ⟨#[]⟩, ⟨#[]⟩, ⟨#[]⟩, ⟨#[]⟩, beg⟩)
  have hp0 := Lib.hid (h.out.below (below_alc w (.cells #[.int .i64 10, .int .i64 0, .int .i64 0, .int .i64 0, .int .i64 0, .string ⟨#[]⟩, .string ⟨#[]⟩, .string ⟨#[]⟩, .string ⟨#[]⟩, .int .i64 beg] 66)))
  have hS0 := Lib.hid (show Stp G w nv (w.alloc (.cells #[.int .i64 10, .int .i64 0, .int .i64 0, .int .i64 0, .int .i64 0, .string ⟨#[]⟩, .string ⟨#[]⟩, .string ⟨#[]⟩, .string ⟨#[]⟩, .int .i64 beg] 66)) nv from Stp.below (below_alc w (.cells #[.int .i64 10, .int .i64 0, .int .i64 0, .int .i64 0, .int .i64 0, .string ⟨#[]⟩, .string ⟨#[]⟩, .string ⟨#[]⟩, .string ⟨#[]⟩, .int .i64 beg] 66)))
  have hBw := Lib.hid h.out.lt.2.1
  go_enter Tryz.func93, Tryz.ntmps93
  go_wp2_with fail
  refine (kE.out _ nv _ hp0.out).mono ?_
  rintro e1 w1 ⟨a1, nv1, rfl, hq1, hs1, hv1⟩
  have hs1 := Lib.hid hs1
  have hv1 := Lib.hid hv1
  have hy1 := Lib.hid (hx0.out.step hs1.out)
  have hx1 := Lib.hid (hy1.out.set1 a1)
  have hp1 := Lib.hid (hq1.box hy1.out hBw.out 1 (.int .i64 a1))
  have hS1 := Lib.hid ((hS0.out.trans hs1.out).store (Nat.le_refl w.heap.size) 1 (.int .i64 a1))
  have cs := hy1.out.c1; have cf := hy1.out.fz; have cl := hy1.out.lt
  clear hx0 hS0 hp0 hs1 hq1
  clear hy1
  go_wp2_with fail
  clear cs cf cl
  refine (take_any B G tv ts en ov d _ nv1 _ kwWith hp1).mono ?_
  rintro e2 w2 ⟨rfl, hq2, hb2⟩
  have hs2 := Lib.hid (show Stp G _ nv1 w2 nv1 from Stp.of hb2)
  have hx2 := Lib.hid (hx1.out.step hs2.out)
  have hS2 := Lib.hid (hS1.out.trans hs2.out)
  have hp2 := Lib.hid hq2
  clear hx1 hS1 hp1 hs2 hb2 hq2
  go_wp2_with fail
  refine (pname_any B G tv ts en ov d _ nv1 _ hp2).mono ?_
  rintro e3 w3 ⟨x3, rfl, ⟨hq3, hb3⟩, hv3⟩
  have hs3 := Lib.hid (show Stp G _ nv1 w3 nv1 from Stp.of hb3)
  clear hb3
  have hv3 := Lib.hid hv3
  have hy3 := Lib.hid (hx2.out.step hs3.out)
  have hx3 := Lib.hid (hy3.out.set5 x3)
  have hp3 := Lib.hid (hq3.box hy3.out hBw.out 5 (.string x3))
  have hS3 := Lib.hid ((hS2.out.trans hs3.out).store (Nat.le_refl w.heap.size) 5 (.string x3))
  have cs := hy3.out.c5; have cf := hy3.out.fz; have cl := hy3.out.lt
  clear hx2 hS2 hp2 hs3 hq3
  clear hy3
  go_wp2_with fail
  clear cs cf cl
  refine (pname_any B G tv ts en ov d _ nv1 _ hp3).mono ?_
  rintro e4 w4 ⟨x4, rfl, ⟨hq4, hb4⟩, hv4⟩
  have hs4 := Lib.hid (show Stp G _ nv1 w4 nv1 from Stp.of hb4)
  clear hb4
  have hv4 := Lib.hid hv4
  have hy4 := Lib.hid (hx3.out.step hs4.out)
  have hx4 := Lib.hid (hy4.out.set6 x4)
  have hp4 := Lib.hid (hq4.box hy4.out hBw.out 6 (.string x4))
  have hS4 := Lib.hid ((hS3.out.trans hs4.out).store (Nat.le_refl w.heap.size) 6 (.string x4))
  have cs := hy4.out.c6; have cf := hy4.out.fz; have cl := hy4.out.lt
  clear hx3 hS3 hp3 hs4 hq4
  clear hy4
  go_wp2_with fail
  clear cs cf cl
  refine (pname_any B G tv ts en ov d _ nv1 _ hp4).mono ?_
  rintro e5 w5 ⟨x5, rfl, ⟨hq5, hb5⟩, hv5⟩
  have hs5 := Lib.hid (show Stp G _ nv1 w5 nv1 from Stp.of hb5)
  clear hb5
  have hv5 := Lib.hid hv5
  have hy5 := Lib.hid (hx4.out.step hs5.out)
  have hx5 := Lib.hid (hy5.out.set7 x5)
  have hp5 := Lib.hid (hq5.box hy5.out hBw.out 7 (.string x5))
  have hS5 := Lib.hid ((hS4.out.trans hs5.out).store (Nat.le_refl w.heap.size) 7 (.string x5))
  have cs := hy5.out.c7; have cf := hy5.out.fz; have cl := hy5.out.lt
  clear hx4 hS4 hp4 hs5 hq5
  clear hy5
  go_wp2_with fail
  clear cs cf cl
  refine (take_any B G tv ts en ov d _ nv1 _ sgArrow hp5).mono ?_
  rintro e6 w6 ⟨rfl, hq6, hb6⟩
  have hs6 := Lib.hid (show Stp G _ nv1 w6 nv1 from Stp.of hb6)
  have hx6 := Lib.hid (hx5.out.step hs6.out)
  have hS6 := Lib.hid (hS5.out.trans hs6.out)
  have hp6 := Lib.hid hq6
  clear hx5 hS5 hp5 hs6 hb6 hq6
  go_wp2_with fail
  refine (kE.out _ nv1 _ hp6.out).mono ?_
  rintro e7 w7 ⟨a7, nv7, rfl, hq7, hs7, hv7⟩
  have hs7 := Lib.hid hs7
  have hv7 := Lib.hid hv7
  have hy7 := Lib.hid (hx6.out.step hs7.out)
  have hx7 := Lib.hid (hy7.out.set2 a7)
  have hp7 := Lib.hid (hq7.box hy7.out hBw.out 2 (.int .i64 a7))
  have hS7 := Lib.hid ((hS6.out.trans hs7.out).store (Nat.le_refl w.heap.size) 2 (.int .i64 a7))
  have cs := hy7.out.c2; have cf := hy7.out.fz; have cl := hy7.out.lt
  clear hx6 hS6 hp6 hs7 hq7
  clear hy7
  go_wp2_with fail
  clear cs cf cl
  refine (take_any B G tv ts en ov d _ nv7 _ kwReturn hp7).mono ?_
  rintro e8 w8 ⟨rfl, hq8, hb8⟩
  have hs8 := Lib.hid (show Stp G _ nv7 w8 nv7 from Stp.of hb8)
  have hx8 := Lib.hid (hx7.out.step hs8.out)
  have hS8 := Lib.hid (hS7.out.trans hs8.out)
  have hp8 := Lib.hid hq8
  clear hx7 hS7 hp7 hs8 hb8 hq8
  go_wp2_with fail
  refine (pname_any B G tv ts en ov d _ nv7 _ hp8).mono ?_
  rintro e9 w9 ⟨x9, rfl, ⟨hq9, hb9⟩, hv9⟩
  have hs9 := Lib.hid (show Stp G _ nv7 w9 nv7 from Stp.of hb9)
  clear hb9
  have hv9 := Lib.hid hv9
  have hy9 := Lib.hid (hx8.out.step hs9.out)
  have hx9 := Lib.hid (hy9.out.set8 x9)
  have hp9 := Lib.hid (hq9.box hy9.out hBw.out 8 (.string x9))
  have hS9 := Lib.hid ((hS8.out.trans hs9.out).store (Nat.le_refl w.heap.size) 8 (.string x9))
  have cs := hy9.out.c8; have cf := hy9.out.fz; have cl := hy9.out.lt
  clear hx8 hS8 hp8 hs9 hq9
  clear hy9
  go_wp2_with fail
  clear cs cf cl
  refine (take_any B G tv ts en ov d _ nv7 _ sgArrow hp9).mono ?_
  rintro e10 w10 ⟨rfl, hq10, hb10⟩
  have hs10 := Lib.hid (show Stp G _ nv7 w10 nv7 from Stp.of hb10)
  have hx10 := Lib.hid (hx9.out.step hs10.out)
  have hS10 := Lib.hid (hS9.out.trans hs10.out)
  have hp10 := Lib.hid hq10
  clear hx9 hS9 hp9 hs10 hb10 hq10
  go_wp2_with fail
  refine (kE.out _ nv7 _ hp10.out).mono ?_
  rintro e11 w11 ⟨a11, nv11, rfl, hq11, hs11, hv11⟩
  have hs11 := Lib.hid hs11
  have hv11 := Lib.hid hv11
  have hy11 := Lib.hid (hx10.out.step hs11.out)
  have hx11 := Lib.hid (hy11.out.set3 a11)
  have hp11 := Lib.hid (hq11.box hy11.out hBw.out 3 (.int .i64 a11))
  have hS11 := Lib.hid ((hS10.out.trans hs11.out).store (Nat.le_refl w.heap.size) 3 (.int .i64 a11))
  have cs := hy11.out.c3; have cf := hy11.out.fz; have cl := hy11.out.lt
  clear hx10 hS10 hp10 hs11 hq11
  clear hy11
  go_wp2_with fail
  clear cs cf cl
  refine (take_any B G tv ts en ov d _ nv11 _ kwEnd hp11).mono ?_
  rintro e12 w12 ⟨rfl, hq12, hb12⟩
  have hs12 := Lib.hid (show Stp G _ nv11 w12 nv11 from Stp.of hb12)
  have hx12 := Lib.hid (hx11.out.step hs12.out)
  have hS12 := Lib.hid (hS11.out.trans hs12.out)
  have hp12 := Lib.hid hq12
  clear hx11 hS11 hp11 hs12 hb12 hq12
  have c0 := hx12.out.c0
  have c1 := hx12.out.c1
  have c2 := hx12.out.c2
  have c3 := hx12.out.c3
  have c4 := hx12.out.c4
  have c5 := hx12.out.c5
  have c6 := hx12.out.c6
  have c7 := hx12.out.c7
  have c8 := hx12.out.c8
  have c9 := hx12.out.c9
  have cf := hx12.out.fz; have cl := hx12.out.lt
  dsimp only at c0 c1 c2 c3 c4 c5 c6 c7 c8 c9
  have k4 := Lib.hid (node_any B G tv ts en ov d _ nv11 _ ⟨10, a1, a7, a11, 0, x3, x4, x5, x9, beg⟩ hp12)
  have he := Lib.hid (phandle_eq (ts := ts) (en := en) (e := e) (beg := beg) (R := R) hv1.out hv3.out hv4.out hv5.out hv7.out hv9.out hv11.out)
  go_wp2_with fail
  refine k4.out.mono ?_
  rintro e4 w4 ⟨v, nv4, rfl, hp4, hs4, hv4⟩
  have hfin : Hid (PqN B G tv ts en ov d w nv (R >>= handleP ts en e beg) (.returned (.int .i64 v)) w4) := Lib.hid (by rw [← he.out]; exact ⟨v, nv4, rfl, hp4, hS12.out.trans hs4, hv4⟩)
  clear k4 hp4 hs4 hv4 he c0 c1 c2 c3 c4 c5 c6 c7 c8 c9 cf cl
  go_wp2_with fail
  go_ret
  exact hfin.out
end Go.Proofs.YtnhfbbognjdnpaaGreatDoor
