/-
  The walk of Read, kind by kind. By an AI agent. (gen_read.py)
-/
import Derived.Test.YthgabbkpjffdnaaDoorActReadParts
import Derived.Deep.CutRange
set_option linter.unusedSimpArgs false
set_option linter.unusedVariables false
namespace Go.Proofs.YthgabbkpjffdnaaDoor
open Go.RowKit
open Ac (A)
set_option maxRecDepth 100000 in
set_option maxHeartbeats 8000000 in
theorem read_0_more (s r0 : ByteArray) (w : World) (hN : Nm w) (HC0 : Hid (Cuts s ⟨#[110, 111, 110, 101]⟩ r0 true)) : Calls Tryd.prog 20 #[.string s] w (Gives (readV 0 0 0 0 0 3) w) := by
  have HF := Lib.hid fun w => fields_0 w
  have HB := Lib.hid ((Below.refl w.heap.size w).alloc (Nat.le_refl _) (.cells #[.int .i64 0, .int .u64 0, .int .i64 0, .int .u64 0, .int .u64 0] 26))
  have HQ := Lib.hid (res_new w)
  go_enter Tryd.func20, Tryd.ntmps20
  go_wp2_with fail
  with_reducible refine (HC0.out.at _).mono ?_
  rintro e w1 ⟨rfl, hb⟩
  have HQ := Lib.hid (HQ.out.keep hb)
  have B := Lib.hid (HB.out.trans (hb.mono HB.out.size)); clear hb
  have HKi := Lib.hid (kind_0 w1 (hN.below B.out)); clear hN
  go_wp2_with fail
  with_reducible refine HKi.out.mono ?_
  rintro e w1' ⟨rfl, rfl⟩
  go_wp2_with fail
  with_reducible refine (HF.out _).mono ?_
  rintro e w2 ⟨rfl, hb⟩
  have HQ := Lib.hid (HQ.out.keep hb)
  have B := Lib.hid (B.out.trans (hb.mono B.out.size)); clear hb
  go_wp2_with fail
  obtain ⟨W, hW⟩ : ∃ W, W = (w2.alloc (.cells #[.bool false, .bool false, .bool false, .bool false] 67)).alloc (.cells #[.int .u64 0, .int .u64 0, .int .u64 0, .int .u64 0] 70) := ⟨_, rfl⟩
  have hBW : Below w2.heap.size w2 W := by rw [hW]; exact ((Below.refl _ _).alloc (Nat.le_refl _) _).alloc (by simp) _
  have HU : Hid (Num (w2.heap.size + 1) 0 0 0 0 W) := Lib.hid (by rw [hW]; have := heap_alloc_new (w2.alloc (.cells #[.bool false, .bool false, .bool false, .bool false] 67)) (.cells #[.int .u64 0, .int .u64 0, .int .u64 0, .int .u64 0] 70); simpa [Num] using this)
  have HQ := Lib.hid (HQ.out.keep hBW)
  have hu : Hid (w.heap.size < w2.heap.size + 1) := Lib.hid (by have := B.out.size; omega)
  have B := Lib.hid (B.out.trans (hBW.mono B.out.size)); clear hBW
  rw [← hW]; clear hW
  refine wp_loop_rounds 5 ?_
  rw [rounds_succ]
  have I := bx0 (.bool false) (.bool false) (.bool false) (.bool false)
  go_wp2
  clear I
  rw [rounds_succ]
  have I := bx1 (.bool false) (.bool false) (.bool false) (.bool false)
  go_wp2
  clear I
  rw [rounds_succ]
  have I := bx2 (.bool false) (.bool false) (.bool false) (.bool false)
  go_wp2
  clear I
  rw [rounds_succ]
  have I := bx3 (.bool false) (.bool false) (.bool false) (.bool false)
  go_wp2
  clear I
  rw [rounds_succ]
  obtain ⟨n0, n1, n2, n3, nz⟩ := HU.out.cells
  go_upto_region 19 with fail
  clear n0 n1 n2 n3 nz
  have HQ := Lib.hid (HQ.out.keep ((Below.refl _ _).alloc (Nat.le_refl _) (.cells #[.int .i64 0, .int .u64 0, .int .i64 0, .int .u64 0, .int .u64 0] 26)))
  have B := Lib.hid (B.out.alloc B.out.size (.cells #[.int .i64 0, .int .u64 0, .int .i64 0, .int .u64 0, .int .u64 0] 26))
  obtain ⟨Wx, hWx⟩ : ∃ Wx, Wx = W.alloc (.cells #[.int .i64 0, .int .u64 0, .int .i64 0, .int .u64 0, .int .u64 0] 26) := ⟨_, rfl⟩
  rw [← hWx] at HQ B ⊢
  clear hWx HU
  obtain ⟨q0, q1, q2, q3, q4, qz⟩ := HQ.out.cells
  go_wp2
  clear q0 q1 q2 q3 q4 qz
  show bodyPost _ _ _ _ _ (five _ w.heap.size 0 0 0 0 0)
  obtain ⟨g0, g1, g2, g3, g4⟩ := five_cells HQ.out 0 0 0 0 0
  exact bodyPost_ret (v := readV 0 0 0 0 0 3) (by simp [readV, results, Tryd.results20, go_sem, g0, g1, g2, g3, g4]) rfl ⟨rfl, five_below B.out (Nat.le_refl _) _ _ _ _ _⟩
set_option maxRecDepth 100000 in
set_option maxHeartbeats 8000000 in
theorem read_1_more (s r0 : ByteArray) (m0 : Bool) (w : World) (hN : Nm w) (HC0 : Hid (Cuts s ⟨#[108, 111, 97, 100]⟩ r0 m0)) (t1 r1 : ByteArray) (m1 : Bool) (v1 : Int) (HC1 : Hid (Cuts r0 t1 r1 m1)) (HN1 : Hid (Nums 0 t1 v1 true)) (t2 r2 : ByteArray) (v2 : Int) (HC2 : Hid (Cuts r1 t2 r2 true)) (HN2 : Hid (Nums 1 t2 v2 true)) (vc0 : 0 ≤ v2) (vc1 : v2 ≤ 9223372036854775807) : Calls Tryd.prog 20 #[.string s] w (Gives (readV 0 0 0 0 0 3) w) := by
  have HF := Lib.hid fun w => fields_1 w
  have HB := Lib.hid ((Below.refl w.heap.size w).alloc (Nat.le_refl _) (.cells #[.int .i64 0, .int .u64 0, .int .i64 0, .int .u64 0, .int .u64 0] 26))
  have HQ := Lib.hid (res_new w)
  go_enter Tryd.func20, Tryd.ntmps20
  go_wp2_with fail
  with_reducible refine (HC0.out.at _).mono ?_
  rintro e w1 ⟨rfl, hb⟩
  have HQ := Lib.hid (HQ.out.keep hb)
  have B := Lib.hid (HB.out.trans (hb.mono HB.out.size)); clear hb
  have HKi := Lib.hid (kind_1 w1 (hN.below B.out)); clear hN
  go_wp2_with fail
  with_reducible refine HKi.out.mono ?_
  rintro e w1' ⟨rfl, rfl⟩
  go_wp2_with fail
  with_reducible refine (HF.out _).mono ?_
  rintro e w2 ⟨rfl, hb⟩
  have HQ := Lib.hid (HQ.out.keep hb)
  have B := Lib.hid (B.out.trans (hb.mono B.out.size)); clear hb
  go_wp2_with fail
  obtain ⟨W, hW⟩ : ∃ W, W = (w2.alloc (.cells #[.bool true, .bool true, .bool false, .bool false] 67)).alloc (.cells #[.int .u64 0, .int .u64 0, .int .u64 0, .int .u64 0] 70) := ⟨_, rfl⟩
  have hBW : Below w2.heap.size w2 W := by rw [hW]; exact ((Below.refl _ _).alloc (Nat.le_refl _) _).alloc (by simp) _
  have HU : Hid (Num (w2.heap.size + 1) 0 0 0 0 W) := Lib.hid (by rw [hW]; have := heap_alloc_new (w2.alloc (.cells #[.bool true, .bool true, .bool false, .bool false] 67)) (.cells #[.int .u64 0, .int .u64 0, .int .u64 0, .int .u64 0] 70); simpa [Num] using this)
  have HQ := Lib.hid (HQ.out.keep hBW)
  have hu : Hid (w.heap.size < w2.heap.size + 1) := Lib.hid (by have := B.out.size; omega)
  have B := Lib.hid (B.out.trans (hBW.mono B.out.size)); clear hBW
  rw [← hW]; clear hW
  refine wp_loop_rounds 5 ?_
  rw [rounds_succ]
  have I := bx0 (.bool true) (.bool true) (.bool false) (.bool false)
  go_wp2_with fail
  clear I
  with_reducible refine (HC1.out.at _).mono ?_
  rintro e wc ⟨rfl, hb⟩
  have HQ := Lib.hid (HQ.out.keep hb)
  have HU := Lib.hid (HU.out.keep hb)
  have B := Lib.hid (B.out.trans (hb.mono B.out.size)); clear hb
  go_wp2_with fail
  with_reducible refine (HN1.out.at _).mono ?_
  rintro e wn ⟨rfl, hb⟩
  have HQ := Lib.hid (HQ.out.keep hb)
  have HU := Lib.hid (HU.out.keep hb)
  have B := Lib.hid (B.out.trans (hb.mono B.out.size)); clear hb
  obtain ⟨n0, n1, n2, n3, nz⟩ := HU.out.cells
  go_wp2
  clear n0 n1 n2 n3 nz
  have HU := Lib.hid (HU.out.set0 v1)
  have HQ := Lib.hid (HQ.out.set hu.out 0 (.int .u64 v1))
  have B := Lib.hid (B.out.setCell (p := ⟨w2.heap.size + 1, 0, none⟩) (Nat.le_of_lt hu.out) (.int .u64 v1))
  obtain ⟨W', hW'⟩ : ∃ W', W' = wn.setCell ⟨w2.heap.size + 1, 0, none⟩ (.int .u64 v1) := ⟨_, rfl⟩
  rw [← hW'] at HU HQ B ⊢
  clear hW'
  rw [rounds_succ]
  have I := bx1 (.bool true) (.bool true) (.bool false) (.bool false)
  go_wp2_with fail
  clear I
  with_reducible refine (HC2.out.at _).mono ?_
  rintro e wc ⟨rfl, hb⟩
  have HQ := Lib.hid (HQ.out.keep hb)
  have HU := Lib.hid (HU.out.keep hb)
  have B := Lib.hid (B.out.trans (hb.mono B.out.size)); clear hb
  go_wp2_with fail
  with_reducible refine (HN2.out.at _).mono ?_
  rintro e wn ⟨rfl, hb⟩
  have HQ := Lib.hid (HQ.out.keep hb)
  have HU := Lib.hid (HU.out.keep hb)
  have B := Lib.hid (B.out.trans (hb.mono B.out.size)); clear hb
  obtain ⟨n0, n1, n2, n3, nz⟩ := HU.out.cells
  go_wp2
  clear n0 n1 n2 n3 nz
  have HU := Lib.hid (HU.out.set1 v2)
  have HQ := Lib.hid (HQ.out.set hu.out 1 (.int .u64 v2))
  have B := Lib.hid (B.out.setCell (p := ⟨w2.heap.size + 1, 1, none⟩) (Nat.le_of_lt hu.out) (.int .u64 v2))
  obtain ⟨W', hW'⟩ : ∃ W', W' = wn.setCell ⟨w2.heap.size + 1, 1, none⟩ (.int .u64 v2) := ⟨_, rfl⟩
  rw [← hW'] at HU HQ B ⊢
  clear hW'
  rw [rounds_succ]
  have I := bx2 (.bool true) (.bool true) (.bool false) (.bool false)
  go_wp2
  clear I
  rw [rounds_succ]
  have I := bx3 (.bool true) (.bool true) (.bool false) (.bool false)
  go_wp2
  clear I
  rw [rounds_succ]
  obtain ⟨n0, n1, n2, n3, nz⟩ := HU.out.cells
  go_upto_region 19 with fail
  clear n0 n1 n2 n3 nz
  have HQ := Lib.hid (HQ.out.keep ((Below.refl _ _).alloc (Nat.le_refl _) (.cells #[.int .i64 1, .int .u64 v1, .int .i64 v2, .int .u64 0, .int .u64 0] 26)))
  have B := Lib.hid (B.out.alloc B.out.size (.cells #[.int .i64 1, .int .u64 v1, .int .i64 v2, .int .u64 0, .int .u64 0] 26))
  obtain ⟨Wx, hWx⟩ : ∃ Wx, Wx = W'.alloc (.cells #[.int .i64 1, .int .u64 v1, .int .i64 v2, .int .u64 0, .int .u64 0] 26) := ⟨_, rfl⟩
  rw [← hWx] at HQ B ⊢
  clear hWx HU
  obtain ⟨q0, q1, q2, q3, q4, qz⟩ := HQ.out.cells
  go_wp2
  clear q0 q1 q2 q3 q4 qz
  show bodyPost _ _ _ _ _ (five _ w.heap.size 0 0 0 0 0)
  obtain ⟨g0, g1, g2, g3, g4⟩ := five_cells HQ.out 0 0 0 0 0
  exact bodyPost_ret (v := readV 0 0 0 0 0 3) (by simp [readV, results, Tryd.results20, go_sem, g0, g1, g2, g3, g4]) rfl ⟨rfl, five_below B.out (Nat.le_refl _) _ _ _ _ _⟩
set_option maxRecDepth 100000 in
set_option maxHeartbeats 8000000 in
theorem read_2_f2 (s r0 : ByteArray) (m0 : Bool) (w : World) (hN : Nm w) (HC0 : Hid (Cuts s ⟨#[115, 116, 111, 114, 101]⟩ r0 m0)) (t1 r1 : ByteArray) (m1 : Bool) (v1 : Int) (HC1 : Hid (Cuts r0 t1 r1 m1)) (HN1 : Hid (Nums 0 t1 v1 true)) (t2 r2 : ByteArray) (m2 : Bool) (v2 : Int) (HC2 : Hid (Cuts r1 t2 r2 m2)) (HN2 : Hid (Nums 1 t2 v2 true)) (vc0 : 0 ≤ v2) (vc1 : v2 ≤ 9223372036854775807) (t3 r3 : ByteArray) (m3 : Bool) (v3 : Int) (HC3 : Hid (Cuts r2 t3 r3 m3)) (HN3 : Hid (Nums 3 t3 v3 false)) : Calls Tryd.prog 20 #[.string s] w (Gives (readV 0 0 0 0 0 3) w) := by
  have HF := Lib.hid fun w => fields_2 w
  have HB := Lib.hid ((Below.refl w.heap.size w).alloc (Nat.le_refl _) (.cells #[.int .i64 0, .int .u64 0, .int .i64 0, .int .u64 0, .int .u64 0] 26))
  have HQ := Lib.hid (res_new w)
  go_enter Tryd.func20, Tryd.ntmps20
  go_wp2_with fail
  with_reducible refine (HC0.out.at _).mono ?_
  rintro e w1 ⟨rfl, hb⟩
  have HQ := Lib.hid (HQ.out.keep hb)
  have B := Lib.hid (HB.out.trans (hb.mono HB.out.size)); clear hb
  have HKi := Lib.hid (kind_2 w1 (hN.below B.out)); clear hN
  go_wp2_with fail
  with_reducible refine HKi.out.mono ?_
  rintro e w1' ⟨rfl, rfl⟩
  go_wp2_with fail
  with_reducible refine (HF.out _).mono ?_
  rintro e w2 ⟨rfl, hb⟩
  have HQ := Lib.hid (HQ.out.keep hb)
  have B := Lib.hid (B.out.trans (hb.mono B.out.size)); clear hb
  go_wp2_with fail
  obtain ⟨W, hW⟩ : ∃ W, W = (w2.alloc (.cells #[.bool true, .bool true, .bool false, .bool true] 67)).alloc (.cells #[.int .u64 0, .int .u64 0, .int .u64 0, .int .u64 0] 70) := ⟨_, rfl⟩
  have hBW : Below w2.heap.size w2 W := by rw [hW]; exact ((Below.refl _ _).alloc (Nat.le_refl _) _).alloc (by simp) _
  have HU : Hid (Num (w2.heap.size + 1) 0 0 0 0 W) := Lib.hid (by rw [hW]; have := heap_alloc_new (w2.alloc (.cells #[.bool true, .bool true, .bool false, .bool true] 67)) (.cells #[.int .u64 0, .int .u64 0, .int .u64 0, .int .u64 0] 70); simpa [Num] using this)
  have HQ := Lib.hid (HQ.out.keep hBW)
  have hu : Hid (w.heap.size < w2.heap.size + 1) := Lib.hid (by have := B.out.size; omega)
  have B := Lib.hid (B.out.trans (hBW.mono B.out.size)); clear hBW
  rw [← hW]; clear hW
  refine wp_loop_rounds 5 ?_
  rw [rounds_succ]
  have I := bx0 (.bool true) (.bool true) (.bool false) (.bool true)
  go_wp2_with fail
  clear I
  with_reducible refine (HC1.out.at _).mono ?_
  rintro e wc ⟨rfl, hb⟩
  have HQ := Lib.hid (HQ.out.keep hb)
  have HU := Lib.hid (HU.out.keep hb)
  have B := Lib.hid (B.out.trans (hb.mono B.out.size)); clear hb
  go_wp2_with fail
  with_reducible refine (HN1.out.at _).mono ?_
  rintro e wn ⟨rfl, hb⟩
  have HQ := Lib.hid (HQ.out.keep hb)
  have HU := Lib.hid (HU.out.keep hb)
  have B := Lib.hid (B.out.trans (hb.mono B.out.size)); clear hb
  obtain ⟨n0, n1, n2, n3, nz⟩ := HU.out.cells
  go_wp2
  clear n0 n1 n2 n3 nz
  have HU := Lib.hid (HU.out.set0 v1)
  have HQ := Lib.hid (HQ.out.set hu.out 0 (.int .u64 v1))
  have B := Lib.hid (B.out.setCell (p := ⟨w2.heap.size + 1, 0, none⟩) (Nat.le_of_lt hu.out) (.int .u64 v1))
  obtain ⟨W', hW'⟩ : ∃ W', W' = wn.setCell ⟨w2.heap.size + 1, 0, none⟩ (.int .u64 v1) := ⟨_, rfl⟩
  rw [← hW'] at HU HQ B ⊢
  clear hW'
  rw [rounds_succ]
  have I := bx1 (.bool true) (.bool true) (.bool false) (.bool true)
  go_wp2_with fail
  clear I
  with_reducible refine (HC2.out.at _).mono ?_
  rintro e wc ⟨rfl, hb⟩
  have HQ := Lib.hid (HQ.out.keep hb)
  have HU := Lib.hid (HU.out.keep hb)
  have B := Lib.hid (B.out.trans (hb.mono B.out.size)); clear hb
  go_wp2_with fail
  with_reducible refine (HN2.out.at _).mono ?_
  rintro e wn ⟨rfl, hb⟩
  have HQ := Lib.hid (HQ.out.keep hb)
  have HU := Lib.hid (HU.out.keep hb)
  have B := Lib.hid (B.out.trans (hb.mono B.out.size)); clear hb
  obtain ⟨n0, n1, n2, n3, nz⟩ := HU.out.cells
  go_wp2
  clear n0 n1 n2 n3 nz
  have HU := Lib.hid (HU.out.set1 v2)
  have HQ := Lib.hid (HQ.out.set hu.out 1 (.int .u64 v2))
  have B := Lib.hid (B.out.setCell (p := ⟨w2.heap.size + 1, 1, none⟩) (Nat.le_of_lt hu.out) (.int .u64 v2))
  obtain ⟨W', hW'⟩ : ∃ W', W' = wn.setCell ⟨w2.heap.size + 1, 1, none⟩ (.int .u64 v2) := ⟨_, rfl⟩
  rw [← hW'] at HU HQ B ⊢
  clear hW'
  rw [rounds_succ]
  have I := bx2 (.bool true) (.bool true) (.bool false) (.bool true)
  go_wp2
  clear I
  rw [rounds_succ]
  have I := bx3 (.bool true) (.bool true) (.bool false) (.bool true)
  go_wp2_with fail
  clear I
  with_reducible refine (HC3.out.at _).mono ?_
  rintro e wc ⟨rfl, hb⟩
  have HQ := Lib.hid (HQ.out.keep hb)
  have HU := Lib.hid (HU.out.keep hb)
  have B := Lib.hid (B.out.trans (hb.mono B.out.size)); clear hb
  go_wp2_with fail
  with_reducible refine (HN3.out.at _).mono ?_
  rintro e wn ⟨rfl, hb⟩
  have HQ := Lib.hid (HQ.out.keep hb)
  have HU := Lib.hid (HU.out.keep hb)
  have B := Lib.hid (B.out.trans (hb.mono B.out.size)); clear hb
  obtain ⟨q0, q1, q2, q3, q4, qz⟩ := HQ.out.cells
  go_wp2
  clear q0 q1 q2 q3 q4 qz
  show bodyPost _ _ _ _ _ (five _ w.heap.size 0 0 0 0 0)
  obtain ⟨g0, g1, g2, g3, g4⟩ := five_cells HQ.out 0 0 0 0 0
  exact bodyPost_ret (v := readV 0 0 0 0 0 3) (by simp [readV, results, Tryd.results20, go_sem, g0, g1, g2, g3, g4]) rfl ⟨rfl, five_below B.out (Nat.le_refl _) _ _ _ _ _⟩
set_option maxRecDepth 100000 in
set_option maxHeartbeats 8000000 in
theorem read_3_f1 (s r0 : ByteArray) (m0 : Bool) (w : World) (hN : Nm w) (HC0 : Hid (Cuts s ⟨#[99, 97, 115]⟩ r0 m0)) (t1 r1 : ByteArray) (m1 : Bool) (v1 : Int) (HC1 : Hid (Cuts r0 t1 r1 m1)) (HN1 : Hid (Nums 0 t1 v1 true)) (t2 r2 : ByteArray) (m2 : Bool) (v2 : Int) (HC2 : Hid (Cuts r1 t2 r2 m2)) (HN2 : Hid (Nums 1 t2 v2 false)) (vc0 : 0 ≤ v2) (vc1 : v2 ≤ 9223372036854775807) : Calls Tryd.prog 20 #[.string s] w (Gives (readV 0 0 0 0 0 3) w) := by
  have HF := Lib.hid fun w => fields_3 w
  have HB := Lib.hid ((Below.refl w.heap.size w).alloc (Nat.le_refl _) (.cells #[.int .i64 0, .int .u64 0, .int .i64 0, .int .u64 0, .int .u64 0] 26))
  have HQ := Lib.hid (res_new w)
  go_enter Tryd.func20, Tryd.ntmps20
  go_wp2_with fail
  with_reducible refine (HC0.out.at _).mono ?_
  rintro e w1 ⟨rfl, hb⟩
  have HQ := Lib.hid (HQ.out.keep hb)
  have B := Lib.hid (HB.out.trans (hb.mono HB.out.size)); clear hb
  have HKi := Lib.hid (kind_3 w1 (hN.below B.out)); clear hN
  go_wp2_with fail
  with_reducible refine HKi.out.mono ?_
  rintro e w1' ⟨rfl, rfl⟩
  go_wp2_with fail
  with_reducible refine (HF.out _).mono ?_
  rintro e w2 ⟨rfl, hb⟩
  have HQ := Lib.hid (HQ.out.keep hb)
  have B := Lib.hid (B.out.trans (hb.mono B.out.size)); clear hb
  go_wp2_with fail
  obtain ⟨W, hW⟩ : ∃ W, W = (w2.alloc (.cells #[.bool true, .bool true, .bool true, .bool true] 67)).alloc (.cells #[.int .u64 0, .int .u64 0, .int .u64 0, .int .u64 0] 70) := ⟨_, rfl⟩
  have hBW : Below w2.heap.size w2 W := by rw [hW]; exact ((Below.refl _ _).alloc (Nat.le_refl _) _).alloc (by simp) _
  have HU : Hid (Num (w2.heap.size + 1) 0 0 0 0 W) := Lib.hid (by rw [hW]; have := heap_alloc_new (w2.alloc (.cells #[.bool true, .bool true, .bool true, .bool true] 67)) (.cells #[.int .u64 0, .int .u64 0, .int .u64 0, .int .u64 0] 70); simpa [Num] using this)
  have HQ := Lib.hid (HQ.out.keep hBW)
  have hu : Hid (w.heap.size < w2.heap.size + 1) := Lib.hid (by have := B.out.size; omega)
  have B := Lib.hid (B.out.trans (hBW.mono B.out.size)); clear hBW
  rw [← hW]; clear hW
  refine wp_loop_rounds 5 ?_
  rw [rounds_succ]
  have I := bx0 (.bool true) (.bool true) (.bool true) (.bool true)
  go_wp2_with fail
  clear I
  with_reducible refine (HC1.out.at _).mono ?_
  rintro e wc ⟨rfl, hb⟩
  have HQ := Lib.hid (HQ.out.keep hb)
  have HU := Lib.hid (HU.out.keep hb)
  have B := Lib.hid (B.out.trans (hb.mono B.out.size)); clear hb
  go_wp2_with fail
  with_reducible refine (HN1.out.at _).mono ?_
  rintro e wn ⟨rfl, hb⟩
  have HQ := Lib.hid (HQ.out.keep hb)
  have HU := Lib.hid (HU.out.keep hb)
  have B := Lib.hid (B.out.trans (hb.mono B.out.size)); clear hb
  obtain ⟨n0, n1, n2, n3, nz⟩ := HU.out.cells
  go_wp2
  clear n0 n1 n2 n3 nz
  have HU := Lib.hid (HU.out.set0 v1)
  have HQ := Lib.hid (HQ.out.set hu.out 0 (.int .u64 v1))
  have B := Lib.hid (B.out.setCell (p := ⟨w2.heap.size + 1, 0, none⟩) (Nat.le_of_lt hu.out) (.int .u64 v1))
  obtain ⟨W', hW'⟩ : ∃ W', W' = wn.setCell ⟨w2.heap.size + 1, 0, none⟩ (.int .u64 v1) := ⟨_, rfl⟩
  rw [← hW'] at HU HQ B ⊢
  clear hW'
  rw [rounds_succ]
  have I := bx1 (.bool true) (.bool true) (.bool true) (.bool true)
  go_wp2_with fail
  clear I
  with_reducible refine (HC2.out.at _).mono ?_
  rintro e wc ⟨rfl, hb⟩
  have HQ := Lib.hid (HQ.out.keep hb)
  have HU := Lib.hid (HU.out.keep hb)
  have B := Lib.hid (B.out.trans (hb.mono B.out.size)); clear hb
  go_wp2_with fail
  with_reducible refine (HN2.out.at _).mono ?_
  rintro e wn ⟨rfl, hb⟩
  have HQ := Lib.hid (HQ.out.keep hb)
  have HU := Lib.hid (HU.out.keep hb)
  have B := Lib.hid (B.out.trans (hb.mono B.out.size)); clear hb
  obtain ⟨q0, q1, q2, q3, q4, qz⟩ := HQ.out.cells
  go_wp2
  clear q0 q1 q2 q3 q4 qz
  show bodyPost _ _ _ _ _ (five _ w.heap.size 0 0 0 0 0)
  obtain ⟨g0, g1, g2, g3, g4⟩ := five_cells HQ.out 0 0 0 0 0
  exact bodyPost_ret (v := readV 0 0 0 0 0 3) (by simp [readV, results, Tryd.results20, go_sem, g0, g1, g2, g3, g4]) rfl ⟨rfl, five_below B.out (Nat.le_refl _) _ _ _ _ _⟩
set_option maxRecDepth 100000 in
set_option maxHeartbeats 8000000 in
theorem read_3_yes (s r0 : ByteArray) (m0 : Bool) (w : World) (hN : Nm w) (HC0 : Hid (Cuts s ⟨#[99, 97, 115]⟩ r0 m0)) (t1 r1 : ByteArray) (m1 : Bool) (v1 : Int) (HC1 : Hid (Cuts r0 t1 r1 m1)) (HN1 : Hid (Nums 0 t1 v1 true)) (t2 r2 : ByteArray) (m2 : Bool) (v2 : Int) (HC2 : Hid (Cuts r1 t2 r2 m2)) (HN2 : Hid (Nums 1 t2 v2 true)) (vc0 : 0 ≤ v2) (vc1 : v2 ≤ 9223372036854775807) (t3 r3 : ByteArray) (m3 : Bool) (v3 : Int) (HC3 : Hid (Cuts r2 t3 r3 m3)) (HN3 : Hid (Nums 2 t3 v3 true)) (t4 r4 : ByteArray) (v4 : Int) (HC4 : Hid (Cuts r3 t4 r4 false)) (HN4 : Hid (Nums 3 t4 v4 true)) (HR : Hid (∀ w, Calls Tryd.prog 10 #[.agg #[.int .i64 3, .int .u64 v1, .int .i64 v2, .int .u64 v3, .int .u64 v4]] w (Gives (.bool true) w))) : Calls Tryd.prog 20 #[.string s] w (Gives (readV 3 v1 v2 v3 v4 0) w) := by
  have HF := Lib.hid fun w => fields_3 w
  have HB := Lib.hid ((Below.refl w.heap.size w).alloc (Nat.le_refl _) (.cells #[.int .i64 0, .int .u64 0, .int .i64 0, .int .u64 0, .int .u64 0] 26))
  have HQ := Lib.hid (res_new w)
  go_enter Tryd.func20, Tryd.ntmps20
  go_wp2_with fail
  with_reducible refine (HC0.out.at _).mono ?_
  rintro e w1 ⟨rfl, hb⟩
  have HQ := Lib.hid (HQ.out.keep hb)
  have B := Lib.hid (HB.out.trans (hb.mono HB.out.size)); clear hb
  have HKi := Lib.hid (kind_3 w1 (hN.below B.out)); clear hN
  go_wp2_with fail
  with_reducible refine HKi.out.mono ?_
  rintro e w1' ⟨rfl, rfl⟩
  go_wp2_with fail
  with_reducible refine (HF.out _).mono ?_
  rintro e w2 ⟨rfl, hb⟩
  have HQ := Lib.hid (HQ.out.keep hb)
  have B := Lib.hid (B.out.trans (hb.mono B.out.size)); clear hb
  go_wp2_with fail
  obtain ⟨W, hW⟩ : ∃ W, W = (w2.alloc (.cells #[.bool true, .bool true, .bool true, .bool true] 67)).alloc (.cells #[.int .u64 0, .int .u64 0, .int .u64 0, .int .u64 0] 70) := ⟨_, rfl⟩
  have hBW : Below w2.heap.size w2 W := by rw [hW]; exact ((Below.refl _ _).alloc (Nat.le_refl _) _).alloc (by simp) _
  have HU : Hid (Num (w2.heap.size + 1) 0 0 0 0 W) := Lib.hid (by rw [hW]; have := heap_alloc_new (w2.alloc (.cells #[.bool true, .bool true, .bool true, .bool true] 67)) (.cells #[.int .u64 0, .int .u64 0, .int .u64 0, .int .u64 0] 70); simpa [Num] using this)
  have HQ := Lib.hid (HQ.out.keep hBW)
  have hu : Hid (w.heap.size < w2.heap.size + 1) := Lib.hid (by have := B.out.size; omega)
  have B := Lib.hid (B.out.trans (hBW.mono B.out.size)); clear hBW
  rw [← hW]; clear hW
  refine wp_loop_rounds 5 ?_
  rw [rounds_succ]
  have I := bx0 (.bool true) (.bool true) (.bool true) (.bool true)
  go_wp2_with fail
  clear I
  with_reducible refine (HC1.out.at _).mono ?_
  rintro e wc ⟨rfl, hb⟩
  have HQ := Lib.hid (HQ.out.keep hb)
  have HU := Lib.hid (HU.out.keep hb)
  have B := Lib.hid (B.out.trans (hb.mono B.out.size)); clear hb
  go_wp2_with fail
  with_reducible refine (HN1.out.at _).mono ?_
  rintro e wn ⟨rfl, hb⟩
  have HQ := Lib.hid (HQ.out.keep hb)
  have HU := Lib.hid (HU.out.keep hb)
  have B := Lib.hid (B.out.trans (hb.mono B.out.size)); clear hb
  obtain ⟨n0, n1, n2, n3, nz⟩ := HU.out.cells
  go_wp2
  clear n0 n1 n2 n3 nz
  have HU := Lib.hid (HU.out.set0 v1)
  have HQ := Lib.hid (HQ.out.set hu.out 0 (.int .u64 v1))
  have B := Lib.hid (B.out.setCell (p := ⟨w2.heap.size + 1, 0, none⟩) (Nat.le_of_lt hu.out) (.int .u64 v1))
  obtain ⟨W', hW'⟩ : ∃ W', W' = wn.setCell ⟨w2.heap.size + 1, 0, none⟩ (.int .u64 v1) := ⟨_, rfl⟩
  rw [← hW'] at HU HQ B ⊢
  clear hW'
  rw [rounds_succ]
  have I := bx1 (.bool true) (.bool true) (.bool true) (.bool true)
  go_wp2_with fail
  clear I
  with_reducible refine (HC2.out.at _).mono ?_
  rintro e wc ⟨rfl, hb⟩
  have HQ := Lib.hid (HQ.out.keep hb)
  have HU := Lib.hid (HU.out.keep hb)
  have B := Lib.hid (B.out.trans (hb.mono B.out.size)); clear hb
  go_wp2_with fail
  with_reducible refine (HN2.out.at _).mono ?_
  rintro e wn ⟨rfl, hb⟩
  have HQ := Lib.hid (HQ.out.keep hb)
  have HU := Lib.hid (HU.out.keep hb)
  have B := Lib.hid (B.out.trans (hb.mono B.out.size)); clear hb
  obtain ⟨n0, n1, n2, n3, nz⟩ := HU.out.cells
  go_wp2
  clear n0 n1 n2 n3 nz
  have HU := Lib.hid (HU.out.set1 v2)
  have HQ := Lib.hid (HQ.out.set hu.out 1 (.int .u64 v2))
  have B := Lib.hid (B.out.setCell (p := ⟨w2.heap.size + 1, 1, none⟩) (Nat.le_of_lt hu.out) (.int .u64 v2))
  obtain ⟨W', hW'⟩ : ∃ W', W' = wn.setCell ⟨w2.heap.size + 1, 1, none⟩ (.int .u64 v2) := ⟨_, rfl⟩
  rw [← hW'] at HU HQ B ⊢
  clear hW'
  rw [rounds_succ]
  have I := bx2 (.bool true) (.bool true) (.bool true) (.bool true)
  go_wp2_with fail
  clear I
  with_reducible refine (HC3.out.at _).mono ?_
  rintro e wc ⟨rfl, hb⟩
  have HQ := Lib.hid (HQ.out.keep hb)
  have HU := Lib.hid (HU.out.keep hb)
  have B := Lib.hid (B.out.trans (hb.mono B.out.size)); clear hb
  go_wp2_with fail
  with_reducible refine (HN3.out.at _).mono ?_
  rintro e wn ⟨rfl, hb⟩
  have HQ := Lib.hid (HQ.out.keep hb)
  have HU := Lib.hid (HU.out.keep hb)
  have B := Lib.hid (B.out.trans (hb.mono B.out.size)); clear hb
  obtain ⟨n0, n1, n2, n3, nz⟩ := HU.out.cells
  go_wp2
  clear n0 n1 n2 n3 nz
  have HU := Lib.hid (HU.out.set2 v3)
  have HQ := Lib.hid (HQ.out.set hu.out 2 (.int .u64 v3))
  have B := Lib.hid (B.out.setCell (p := ⟨w2.heap.size + 1, 2, none⟩) (Nat.le_of_lt hu.out) (.int .u64 v3))
  obtain ⟨W', hW'⟩ : ∃ W', W' = wn.setCell ⟨w2.heap.size + 1, 2, none⟩ (.int .u64 v3) := ⟨_, rfl⟩
  rw [← hW'] at HU HQ B ⊢
  clear hW'
  rw [rounds_succ]
  have I := bx3 (.bool true) (.bool true) (.bool true) (.bool true)
  go_wp2_with fail
  clear I
  with_reducible refine (HC4.out.at _).mono ?_
  rintro e wc ⟨rfl, hb⟩
  have HQ := Lib.hid (HQ.out.keep hb)
  have HU := Lib.hid (HU.out.keep hb)
  have B := Lib.hid (B.out.trans (hb.mono B.out.size)); clear hb
  go_wp2_with fail
  with_reducible refine (HN4.out.at _).mono ?_
  rintro e wn ⟨rfl, hb⟩
  have HQ := Lib.hid (HQ.out.keep hb)
  have HU := Lib.hid (HU.out.keep hb)
  have B := Lib.hid (B.out.trans (hb.mono B.out.size)); clear hb
  obtain ⟨n0, n1, n2, n3, nz⟩ := HU.out.cells
  go_wp2
  clear n0 n1 n2 n3 nz
  have HU := Lib.hid (HU.out.set3 v4)
  have HQ := Lib.hid (HQ.out.set hu.out 3 (.int .u64 v4))
  have B := Lib.hid (B.out.setCell (p := ⟨w2.heap.size + 1, 3, none⟩) (Nat.le_of_lt hu.out) (.int .u64 v4))
  obtain ⟨W', hW'⟩ : ∃ W', W' = wn.setCell ⟨w2.heap.size + 1, 3, none⟩ (.int .u64 v4) := ⟨_, rfl⟩
  rw [← hW'] at HU HQ B ⊢
  clear hW'
  rw [rounds_succ]
  obtain ⟨n0, n1, n2, n3, nz⟩ := HU.out.cells
  go_wp2_with fail
  clear n0 n1 n2 n3 nz
  with_reducible refine (HR.out _).mono ?_
  rintro e wr ⟨rfl, hb⟩
  obtain ⟨c0, c1, c2, c3, c4⟩ := box5 hb
  have HQ := Lib.hid ((HQ.out.keep ((Below.refl _ _).alloc (Nat.le_refl _) (.cells #[.int .i64 3, .int .u64 v1, .int .i64 v2, .int .u64 v3, .int .u64 v4] 26))).keep hb)
  have B := Lib.hid (B.out.alloc B.out.size (.cells #[.int .i64 3, .int .u64 v1, .int .i64 v2, .int .u64 v3, .int .u64 v4] 26))
  have B := Lib.hid (B.out.trans (hb.mono B.out.size)); clear hb
  obtain ⟨q0, q1, q2, q3, q4, qz⟩ := HQ.out.cells
  go_wp2
  clear q0 q1 q2 q3 q4 qz c0 c1 c2 c3 c4
  show bodyPost _ _ _ _ _ (five _ w.heap.size 3 v1 v2 v3 v4)
  obtain ⟨g0, g1, g2, g3, g4⟩ := five_cells HQ.out 3 v1 v2 v3 v4
  exact bodyPost_ret (v := readV 3 v1 v2 v3 v4 0) (by simp [readV, results, Tryd.results20, go_sem, g0, g1, g2, g3, g4]) rfl ⟨rfl, five_below B.out (Nat.le_refl _) _ _ _ _ _⟩
set_option maxRecDepth 100000 in
set_option maxHeartbeats 8000000 in
theorem read_4_more (s r0 : ByteArray) (m0 : Bool) (w : World) (hN : Nm w) (HC0 : Hid (Cuts s ⟨#[97, 100, 100]⟩ r0 m0)) (t1 r1 : ByteArray) (m1 : Bool) (v1 : Int) (HC1 : Hid (Cuts r0 t1 r1 m1)) (HN1 : Hid (Nums 0 t1 v1 true)) (t2 r2 : ByteArray) (m2 : Bool) (v2 : Int) (HC2 : Hid (Cuts r1 t2 r2 m2)) (HN2 : Hid (Nums 1 t2 v2 true)) (vc0 : 0 ≤ v2) (vc1 : v2 ≤ 9223372036854775807) (t3 r3 : ByteArray) (v3 : Int) (HC3 : Hid (Cuts r2 t3 r3 true)) (HN3 : Hid (Nums 3 t3 v3 true)) : Calls Tryd.prog 20 #[.string s] w (Gives (readV 0 0 0 0 0 3) w) := by
  have HF := Lib.hid fun w => fields_4 w
  have HB := Lib.hid ((Below.refl w.heap.size w).alloc (Nat.le_refl _) (.cells #[.int .i64 0, .int .u64 0, .int .i64 0, .int .u64 0, .int .u64 0] 26))
  have HQ := Lib.hid (res_new w)
  go_enter Tryd.func20, Tryd.ntmps20
  go_wp2_with fail
  with_reducible refine (HC0.out.at _).mono ?_
  rintro e w1 ⟨rfl, hb⟩
  have HQ := Lib.hid (HQ.out.keep hb)
  have B := Lib.hid (HB.out.trans (hb.mono HB.out.size)); clear hb
  have HKi := Lib.hid (kind_4 w1 (hN.below B.out)); clear hN
  go_wp2_with fail
  with_reducible refine HKi.out.mono ?_
  rintro e w1' ⟨rfl, rfl⟩
  go_wp2_with fail
  with_reducible refine (HF.out _).mono ?_
  rintro e w2 ⟨rfl, hb⟩
  have HQ := Lib.hid (HQ.out.keep hb)
  have B := Lib.hid (B.out.trans (hb.mono B.out.size)); clear hb
  go_wp2_with fail
  obtain ⟨W, hW⟩ : ∃ W, W = (w2.alloc (.cells #[.bool true, .bool true, .bool false, .bool true] 67)).alloc (.cells #[.int .u64 0, .int .u64 0, .int .u64 0, .int .u64 0] 70) := ⟨_, rfl⟩
  have hBW : Below w2.heap.size w2 W := by rw [hW]; exact ((Below.refl _ _).alloc (Nat.le_refl _) _).alloc (by simp) _
  have HU : Hid (Num (w2.heap.size + 1) 0 0 0 0 W) := Lib.hid (by rw [hW]; have := heap_alloc_new (w2.alloc (.cells #[.bool true, .bool true, .bool false, .bool true] 67)) (.cells #[.int .u64 0, .int .u64 0, .int .u64 0, .int .u64 0] 70); simpa [Num] using this)
  have HQ := Lib.hid (HQ.out.keep hBW)
  have hu : Hid (w.heap.size < w2.heap.size + 1) := Lib.hid (by have := B.out.size; omega)
  have B := Lib.hid (B.out.trans (hBW.mono B.out.size)); clear hBW
  rw [← hW]; clear hW
  refine wp_loop_rounds 5 ?_
  rw [rounds_succ]
  have I := bx0 (.bool true) (.bool true) (.bool false) (.bool true)
  go_wp2_with fail
  clear I
  with_reducible refine (HC1.out.at _).mono ?_
  rintro e wc ⟨rfl, hb⟩
  have HQ := Lib.hid (HQ.out.keep hb)
  have HU := Lib.hid (HU.out.keep hb)
  have B := Lib.hid (B.out.trans (hb.mono B.out.size)); clear hb
  go_wp2_with fail
  with_reducible refine (HN1.out.at _).mono ?_
  rintro e wn ⟨rfl, hb⟩
  have HQ := Lib.hid (HQ.out.keep hb)
  have HU := Lib.hid (HU.out.keep hb)
  have B := Lib.hid (B.out.trans (hb.mono B.out.size)); clear hb
  obtain ⟨n0, n1, n2, n3, nz⟩ := HU.out.cells
  go_wp2
  clear n0 n1 n2 n3 nz
  have HU := Lib.hid (HU.out.set0 v1)
  have HQ := Lib.hid (HQ.out.set hu.out 0 (.int .u64 v1))
  have B := Lib.hid (B.out.setCell (p := ⟨w2.heap.size + 1, 0, none⟩) (Nat.le_of_lt hu.out) (.int .u64 v1))
  obtain ⟨W', hW'⟩ : ∃ W', W' = wn.setCell ⟨w2.heap.size + 1, 0, none⟩ (.int .u64 v1) := ⟨_, rfl⟩
  rw [← hW'] at HU HQ B ⊢
  clear hW'
  rw [rounds_succ]
  have I := bx1 (.bool true) (.bool true) (.bool false) (.bool true)
  go_wp2_with fail
  clear I
  with_reducible refine (HC2.out.at _).mono ?_
  rintro e wc ⟨rfl, hb⟩
  have HQ := Lib.hid (HQ.out.keep hb)
  have HU := Lib.hid (HU.out.keep hb)
  have B := Lib.hid (B.out.trans (hb.mono B.out.size)); clear hb
  go_wp2_with fail
  with_reducible refine (HN2.out.at _).mono ?_
  rintro e wn ⟨rfl, hb⟩
  have HQ := Lib.hid (HQ.out.keep hb)
  have HU := Lib.hid (HU.out.keep hb)
  have B := Lib.hid (B.out.trans (hb.mono B.out.size)); clear hb
  obtain ⟨n0, n1, n2, n3, nz⟩ := HU.out.cells
  go_wp2
  clear n0 n1 n2 n3 nz
  have HU := Lib.hid (HU.out.set1 v2)
  have HQ := Lib.hid (HQ.out.set hu.out 1 (.int .u64 v2))
  have B := Lib.hid (B.out.setCell (p := ⟨w2.heap.size + 1, 1, none⟩) (Nat.le_of_lt hu.out) (.int .u64 v2))
  obtain ⟨W', hW'⟩ : ∃ W', W' = wn.setCell ⟨w2.heap.size + 1, 1, none⟩ (.int .u64 v2) := ⟨_, rfl⟩
  rw [← hW'] at HU HQ B ⊢
  clear hW'
  rw [rounds_succ]
  have I := bx2 (.bool true) (.bool true) (.bool false) (.bool true)
  go_wp2
  clear I
  rw [rounds_succ]
  have I := bx3 (.bool true) (.bool true) (.bool false) (.bool true)
  go_wp2_with fail
  clear I
  with_reducible refine (HC3.out.at _).mono ?_
  rintro e wc ⟨rfl, hb⟩
  have HQ := Lib.hid (HQ.out.keep hb)
  have HU := Lib.hid (HU.out.keep hb)
  have B := Lib.hid (B.out.trans (hb.mono B.out.size)); clear hb
  go_wp2_with fail
  with_reducible refine (HN3.out.at _).mono ?_
  rintro e wn ⟨rfl, hb⟩
  have HQ := Lib.hid (HQ.out.keep hb)
  have HU := Lib.hid (HU.out.keep hb)
  have B := Lib.hid (B.out.trans (hb.mono B.out.size)); clear hb
  obtain ⟨n0, n1, n2, n3, nz⟩ := HU.out.cells
  go_wp2
  clear n0 n1 n2 n3 nz
  have HU := Lib.hid (HU.out.set3 v3)
  have HQ := Lib.hid (HQ.out.set hu.out 3 (.int .u64 v3))
  have B := Lib.hid (B.out.setCell (p := ⟨w2.heap.size + 1, 3, none⟩) (Nat.le_of_lt hu.out) (.int .u64 v3))
  obtain ⟨W', hW'⟩ : ∃ W', W' = wn.setCell ⟨w2.heap.size + 1, 3, none⟩ (.int .u64 v3) := ⟨_, rfl⟩
  rw [← hW'] at HU HQ B ⊢
  clear hW'
  rw [rounds_succ]
  obtain ⟨n0, n1, n2, n3, nz⟩ := HU.out.cells
  go_upto_region 19 with fail
  clear n0 n1 n2 n3 nz
  have HQ := Lib.hid (HQ.out.keep ((Below.refl _ _).alloc (Nat.le_refl _) (.cells #[.int .i64 4, .int .u64 v1, .int .i64 v2, .int .u64 0, .int .u64 v3] 26)))
  have B := Lib.hid (B.out.alloc B.out.size (.cells #[.int .i64 4, .int .u64 v1, .int .i64 v2, .int .u64 0, .int .u64 v3] 26))
  obtain ⟨Wx, hWx⟩ : ∃ Wx, Wx = W'.alloc (.cells #[.int .i64 4, .int .u64 v1, .int .i64 v2, .int .u64 0, .int .u64 v3] 26) := ⟨_, rfl⟩
  rw [← hWx] at HQ B ⊢
  clear hWx HU
  obtain ⟨q0, q1, q2, q3, q4, qz⟩ := HQ.out.cells
  go_wp2
  clear q0 q1 q2 q3 q4 qz
  show bodyPost _ _ _ _ _ (five _ w.heap.size 0 0 0 0 0)
  obtain ⟨g0, g1, g2, g3, g4⟩ := five_cells HQ.out 0 0 0 0 0
  exact bodyPost_ret (v := readV 0 0 0 0 0 3) (by simp [readV, results, Tryd.results20, go_sem, g0, g1, g2, g3, g4]) rfl ⟨rfl, five_below B.out (Nat.le_refl _) _ _ _ _ _⟩
set_option maxRecDepth 100000 in
set_option maxHeartbeats 8000000 in
theorem read_5_yes (s r0 : ByteArray) (m0 : Bool) (w : World) (hN : Nm w) (HC0 : Hid (Cuts s ⟨#[97, 108, 108, 111, 99]⟩ r0 m0)) (t1 r1 : ByteArray) (v1 : Int) (HC1 : Hid (Cuts r0 t1 r1 false)) (HN1 : Hid (Nums 1 t1 v1 true)) (vc0 : 0 ≤ v1) (vc1 : v1 ≤ 9223372036854775807) (HR : Hid (∀ w, Calls Tryd.prog 10 #[.agg #[.int .i64 5, .int .u64 0, .int .i64 v1, .int .u64 0, .int .u64 0]] w (Gives (.bool true) w))) : Calls Tryd.prog 20 #[.string s] w (Gives (readV 5 0 v1 0 0 0) w) := by
  have HF := Lib.hid fun w => fields_5 w
  have HB := Lib.hid ((Below.refl w.heap.size w).alloc (Nat.le_refl _) (.cells #[.int .i64 0, .int .u64 0, .int .i64 0, .int .u64 0, .int .u64 0] 26))
  have HQ := Lib.hid (res_new w)
  go_enter Tryd.func20, Tryd.ntmps20
  go_wp2_with fail
  with_reducible refine (HC0.out.at _).mono ?_
  rintro e w1 ⟨rfl, hb⟩
  have HQ := Lib.hid (HQ.out.keep hb)
  have B := Lib.hid (HB.out.trans (hb.mono HB.out.size)); clear hb
  have HKi := Lib.hid (kind_5 w1 (hN.below B.out)); clear hN
  go_wp2_with fail
  with_reducible refine HKi.out.mono ?_
  rintro e w1' ⟨rfl, rfl⟩
  go_wp2_with fail
  with_reducible refine (HF.out _).mono ?_
  rintro e w2 ⟨rfl, hb⟩
  have HQ := Lib.hid (HQ.out.keep hb)
  have B := Lib.hid (B.out.trans (hb.mono B.out.size)); clear hb
  go_wp2_with fail
  obtain ⟨W, hW⟩ : ∃ W, W = (w2.alloc (.cells #[.bool false, .bool true, .bool false, .bool false] 67)).alloc (.cells #[.int .u64 0, .int .u64 0, .int .u64 0, .int .u64 0] 70) := ⟨_, rfl⟩
  have hBW : Below w2.heap.size w2 W := by rw [hW]; exact ((Below.refl _ _).alloc (Nat.le_refl _) _).alloc (by simp) _
  have HU : Hid (Num (w2.heap.size + 1) 0 0 0 0 W) := Lib.hid (by rw [hW]; have := heap_alloc_new (w2.alloc (.cells #[.bool false, .bool true, .bool false, .bool false] 67)) (.cells #[.int .u64 0, .int .u64 0, .int .u64 0, .int .u64 0] 70); simpa [Num] using this)
  have HQ := Lib.hid (HQ.out.keep hBW)
  have hu : Hid (w.heap.size < w2.heap.size + 1) := Lib.hid (by have := B.out.size; omega)
  have B := Lib.hid (B.out.trans (hBW.mono B.out.size)); clear hBW
  rw [← hW]; clear hW
  refine wp_loop_rounds 5 ?_
  rw [rounds_succ]
  have I := bx0 (.bool false) (.bool true) (.bool false) (.bool false)
  go_wp2
  clear I
  rw [rounds_succ]
  have I := bx1 (.bool false) (.bool true) (.bool false) (.bool false)
  go_wp2_with fail
  clear I
  with_reducible refine (HC1.out.at _).mono ?_
  rintro e wc ⟨rfl, hb⟩
  have HQ := Lib.hid (HQ.out.keep hb)
  have HU := Lib.hid (HU.out.keep hb)
  have B := Lib.hid (B.out.trans (hb.mono B.out.size)); clear hb
  go_wp2_with fail
  with_reducible refine (HN1.out.at _).mono ?_
  rintro e wn ⟨rfl, hb⟩
  have HQ := Lib.hid (HQ.out.keep hb)
  have HU := Lib.hid (HU.out.keep hb)
  have B := Lib.hid (B.out.trans (hb.mono B.out.size)); clear hb
  obtain ⟨n0, n1, n2, n3, nz⟩ := HU.out.cells
  go_wp2
  clear n0 n1 n2 n3 nz
  have HU := Lib.hid (HU.out.set1 v1)
  have HQ := Lib.hid (HQ.out.set hu.out 1 (.int .u64 v1))
  have B := Lib.hid (B.out.setCell (p := ⟨w2.heap.size + 1, 1, none⟩) (Nat.le_of_lt hu.out) (.int .u64 v1))
  obtain ⟨W', hW'⟩ : ∃ W', W' = wn.setCell ⟨w2.heap.size + 1, 1, none⟩ (.int .u64 v1) := ⟨_, rfl⟩
  rw [← hW'] at HU HQ B ⊢
  clear hW'
  rw [rounds_succ]
  have I := bx2 (.bool false) (.bool true) (.bool false) (.bool false)
  go_wp2
  clear I
  rw [rounds_succ]
  have I := bx3 (.bool false) (.bool true) (.bool false) (.bool false)
  go_wp2
  clear I
  rw [rounds_succ]
  obtain ⟨n0, n1, n2, n3, nz⟩ := HU.out.cells
  go_wp2_with fail
  clear n0 n1 n2 n3 nz
  with_reducible refine (HR.out _).mono ?_
  rintro e wr ⟨rfl, hb⟩
  obtain ⟨c0, c1, c2, c3, c4⟩ := box5 hb
  have HQ := Lib.hid ((HQ.out.keep ((Below.refl _ _).alloc (Nat.le_refl _) (.cells #[.int .i64 5, .int .u64 0, .int .i64 v1, .int .u64 0, .int .u64 0] 26))).keep hb)
  have B := Lib.hid (B.out.alloc B.out.size (.cells #[.int .i64 5, .int .u64 0, .int .i64 v1, .int .u64 0, .int .u64 0] 26))
  have B := Lib.hid (B.out.trans (hb.mono B.out.size)); clear hb
  obtain ⟨q0, q1, q2, q3, q4, qz⟩ := HQ.out.cells
  go_wp2
  clear q0 q1 q2 q3 q4 qz c0 c1 c2 c3 c4
  show bodyPost _ _ _ _ _ (five _ w.heap.size 5 0 v1 0 0)
  obtain ⟨g0, g1, g2, g3, g4⟩ := five_cells HQ.out 5 0 v1 0 0
  exact bodyPost_ret (v := readV 5 0 v1 0 0 0) (by simp [readV, results, Tryd.results20, go_sem, g0, g1, g2, g3, g4]) rfl ⟨rfl, five_below B.out (Nat.le_refl _) _ _ _ _ _⟩
set_option maxRecDepth 100000 in
set_option maxHeartbeats 8000000 in
theorem read_6_yes (s r0 : ByteArray) (m0 : Bool) (w : World) (hN : Nm w) (HC0 : Hid (Cuts s ⟨#[102, 114, 101, 101]⟩ r0 m0)) (t1 r1 : ByteArray) (v1 : Int) (HC1 : Hid (Cuts r0 t1 r1 false)) (HN1 : Hid (Nums 0 t1 v1 true)) (HR : Hid (∀ w, Calls Tryd.prog 10 #[.agg #[.int .i64 6, .int .u64 v1, .int .i64 0, .int .u64 0, .int .u64 0]] w (Gives (.bool true) w))) : Calls Tryd.prog 20 #[.string s] w (Gives (readV 6 v1 0 0 0 0) w) := by
  have HF := Lib.hid fun w => fields_6 w
  have HB := Lib.hid ((Below.refl w.heap.size w).alloc (Nat.le_refl _) (.cells #[.int .i64 0, .int .u64 0, .int .i64 0, .int .u64 0, .int .u64 0] 26))
  have HQ := Lib.hid (res_new w)
  go_enter Tryd.func20, Tryd.ntmps20
  go_wp2_with fail
  with_reducible refine (HC0.out.at _).mono ?_
  rintro e w1 ⟨rfl, hb⟩
  have HQ := Lib.hid (HQ.out.keep hb)
  have B := Lib.hid (HB.out.trans (hb.mono HB.out.size)); clear hb
  have HKi := Lib.hid (kind_6 w1 (hN.below B.out)); clear hN
  go_wp2_with fail
  with_reducible refine HKi.out.mono ?_
  rintro e w1' ⟨rfl, rfl⟩
  go_wp2_with fail
  with_reducible refine (HF.out _).mono ?_
  rintro e w2 ⟨rfl, hb⟩
  have HQ := Lib.hid (HQ.out.keep hb)
  have B := Lib.hid (B.out.trans (hb.mono B.out.size)); clear hb
  go_wp2_with fail
  obtain ⟨W, hW⟩ : ∃ W, W = (w2.alloc (.cells #[.bool true, .bool false, .bool false, .bool false] 67)).alloc (.cells #[.int .u64 0, .int .u64 0, .int .u64 0, .int .u64 0] 70) := ⟨_, rfl⟩
  have hBW : Below w2.heap.size w2 W := by rw [hW]; exact ((Below.refl _ _).alloc (Nat.le_refl _) _).alloc (by simp) _
  have HU : Hid (Num (w2.heap.size + 1) 0 0 0 0 W) := Lib.hid (by rw [hW]; have := heap_alloc_new (w2.alloc (.cells #[.bool true, .bool false, .bool false, .bool false] 67)) (.cells #[.int .u64 0, .int .u64 0, .int .u64 0, .int .u64 0] 70); simpa [Num] using this)
  have HQ := Lib.hid (HQ.out.keep hBW)
  have hu : Hid (w.heap.size < w2.heap.size + 1) := Lib.hid (by have := B.out.size; omega)
  have B := Lib.hid (B.out.trans (hBW.mono B.out.size)); clear hBW
  rw [← hW]; clear hW
  refine wp_loop_rounds 5 ?_
  rw [rounds_succ]
  have I := bx0 (.bool true) (.bool false) (.bool false) (.bool false)
  go_wp2_with fail
  clear I
  with_reducible refine (HC1.out.at _).mono ?_
  rintro e wc ⟨rfl, hb⟩
  have HQ := Lib.hid (HQ.out.keep hb)
  have HU := Lib.hid (HU.out.keep hb)
  have B := Lib.hid (B.out.trans (hb.mono B.out.size)); clear hb
  go_wp2_with fail
  with_reducible refine (HN1.out.at _).mono ?_
  rintro e wn ⟨rfl, hb⟩
  have HQ := Lib.hid (HQ.out.keep hb)
  have HU := Lib.hid (HU.out.keep hb)
  have B := Lib.hid (B.out.trans (hb.mono B.out.size)); clear hb
  obtain ⟨n0, n1, n2, n3, nz⟩ := HU.out.cells
  go_wp2
  clear n0 n1 n2 n3 nz
  have HU := Lib.hid (HU.out.set0 v1)
  have HQ := Lib.hid (HQ.out.set hu.out 0 (.int .u64 v1))
  have B := Lib.hid (B.out.setCell (p := ⟨w2.heap.size + 1, 0, none⟩) (Nat.le_of_lt hu.out) (.int .u64 v1))
  obtain ⟨W', hW'⟩ : ∃ W', W' = wn.setCell ⟨w2.heap.size + 1, 0, none⟩ (.int .u64 v1) := ⟨_, rfl⟩
  rw [← hW'] at HU HQ B ⊢
  clear hW'
  rw [rounds_succ]
  have I := bx1 (.bool true) (.bool false) (.bool false) (.bool false)
  go_wp2
  clear I
  rw [rounds_succ]
  have I := bx2 (.bool true) (.bool false) (.bool false) (.bool false)
  go_wp2
  clear I
  rw [rounds_succ]
  have I := bx3 (.bool true) (.bool false) (.bool false) (.bool false)
  go_wp2
  clear I
  rw [rounds_succ]
  obtain ⟨n0, n1, n2, n3, nz⟩ := HU.out.cells
  go_wp2_with fail
  clear n0 n1 n2 n3 nz
  with_reducible refine (HR.out _).mono ?_
  rintro e wr ⟨rfl, hb⟩
  obtain ⟨c0, c1, c2, c3, c4⟩ := box5 hb
  have HQ := Lib.hid ((HQ.out.keep ((Below.refl _ _).alloc (Nat.le_refl _) (.cells #[.int .i64 6, .int .u64 v1, .int .i64 0, .int .u64 0, .int .u64 0] 26))).keep hb)
  have B := Lib.hid (B.out.alloc B.out.size (.cells #[.int .i64 6, .int .u64 v1, .int .i64 0, .int .u64 0, .int .u64 0] 26))
  have B := Lib.hid (B.out.trans (hb.mono B.out.size)); clear hb
  obtain ⟨q0, q1, q2, q3, q4, qz⟩ := HQ.out.cells
  go_wp2
  clear q0 q1 q2 q3 q4 qz c0 c1 c2 c3 c4
  show bodyPost _ _ _ _ _ (five _ w.heap.size 6 v1 0 0 0)
  obtain ⟨g0, g1, g2, g3, g4⟩ := five_cells HQ.out 6 v1 0 0 0
  exact bodyPost_ret (v := readV 6 v1 0 0 0 0) (by simp [readV, results, Tryd.results20, go_sem, g0, g1, g2, g3, g4]) rfl ⟨rfl, five_below B.out (Nat.le_refl _) _ _ _ _ _⟩
end Go.Proofs.YthgabbkpjffdnaaDoor
