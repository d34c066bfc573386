/-
  The document's Text, kind by kind. By an AI agent. (gen_rtext.py)
-/
import Derived.Test.YthgabbkpjffdnaaDoorActRightAny
import Derived.Test.YthgabbkpjffdnaaDoorActWord
import Derived.Test.YthgabbkpjffdnaaDoorDigitRefText
set_option linter.unusedSimpArgs false
set_option linter.unusedVariables false
namespace Go.Proofs.YthgabbkpjffdnaaDoor
open Go.RowKit
open Ac (A)
/-- The texts of an act's numbers, by the document. -/
structure RTxs (x : A) (lb lc lo ln : List UInt8) : Prop where
  b : ∀ w', Calls Tryd.prog 49 #[.int .u64 (x.b : Int)] w' (Gives (.string ⟨lb.toArray⟩) w')
  c : ∀ w', Calls Tryd.prog 50 #[.int .i64 x.c] w' (Gives (.string ⟨lc.toArray⟩) w')
  o : ∀ w', Calls Tryd.prog 49 #[.int .u64 (x.o : Int)] w' (Gives (.string ⟨lo.toArray⟩) w')
  n : ∀ w', Calls Tryd.prog 49 #[.int .u64 (x.n : Int)] w' (Gives (.string ⟨ln.toArray⟩) w')
  hb : lb.length ≤ 100
  hc : lc.length ≤ 100
  ho : lo.length ≤ 100
  hn : ln.length ≤ 100
set_option maxRecDepth 100000 in
set_option maxHeartbeats 4000000 in
theorem rword_0 (w : World) : Calls Tryd.prog 48 #[.int .i64 0] w (Gives (.string ⟨#[110, 111, 110, 101]⟩) w) := by
  go_enter Tryd.func48, Tryd.ntmps48
  go_wp2
  go_ret
  exact ⟨rfl, (Below.refl _ _).alloc (Nat.le_refl _) _⟩
set_option maxRecDepth 100000 in
set_option maxHeartbeats 4000000 in
theorem rword_1 (w : World) : Calls Tryd.prog 48 #[.int .i64 1] w (Gives (.string ⟨#[108, 111, 97, 100]⟩) w) := by
  go_enter Tryd.func48, Tryd.ntmps48
  go_wp2
  go_ret
  exact ⟨rfl, (Below.refl _ _).alloc (Nat.le_refl _) _⟩
set_option maxRecDepth 100000 in
set_option maxHeartbeats 4000000 in
theorem rword_2 (w : World) : Calls Tryd.prog 48 #[.int .i64 2] w (Gives (.string ⟨#[115, 116, 111, 114, 101]⟩) w) := by
  go_enter Tryd.func48, Tryd.ntmps48
  go_wp2
  go_ret
  exact ⟨rfl, (Below.refl _ _).alloc (Nat.le_refl _) _⟩
set_option maxRecDepth 100000 in
set_option maxHeartbeats 4000000 in
theorem rword_3 (w : World) : Calls Tryd.prog 48 #[.int .i64 3] w (Gives (.string ⟨#[99, 97, 115]⟩) w) := by
  go_enter Tryd.func48, Tryd.ntmps48
  go_wp2
  go_ret
  exact ⟨rfl, (Below.refl _ _).alloc (Nat.le_refl _) _⟩
set_option maxRecDepth 100000 in
set_option maxHeartbeats 4000000 in
theorem rword_4 (w : World) : Calls Tryd.prog 48 #[.int .i64 4] w (Gives (.string ⟨#[97, 100, 100]⟩) w) := by
  go_enter Tryd.func48, Tryd.ntmps48
  go_wp2
  go_ret
  exact ⟨rfl, (Below.refl _ _).alloc (Nat.le_refl _) _⟩
set_option maxRecDepth 100000 in
set_option maxHeartbeats 4000000 in
theorem rword_5 (w : World) : Calls Tryd.prog 48 #[.int .i64 5] w (Gives (.string ⟨#[97, 108, 108, 111, 99]⟩) w) := by
  go_enter Tryd.func48, Tryd.ntmps48
  go_wp2
  go_ret
  exact ⟨rfl, (Below.refl _ _).alloc (Nat.le_refl _) _⟩
set_option maxRecDepth 100000 in
set_option maxHeartbeats 4000000 in
theorem rword_6 (w : World) : Calls Tryd.prog 48 #[.int .i64 6] w (Gives (.string ⟨#[102, 114, 101, 101]⟩) w) := by
  go_enter Tryd.func48, Tryd.ntmps48
  go_wp2
  go_ret
  exact ⟨rfl, (Below.refl _ _).alloc (Nat.le_refl _) _⟩
set_option maxRecDepth 100000 in
set_option maxHeartbeats 4000000 in
theorem rtext_no (x : A) (w : World) (HR : Hid (∀ w, Calls Tryd.prog 11 #[av x] w (Gives (.bool false) w))) : Calls Tryd.prog 23 #[av x] w (Gives (.string ⟨#[]⟩) w) := by
  have HB := Lib.hid (boxed_below w x)
  go_enter Tryd.func23, Tryd.ntmps23
  go_wp2_with fail
  with_reducible refine (HR.out _).mono ?_
  rintro e w1 ⟨rfl, hb⟩
  go_wp2
  go_ret
  exact ⟨rfl, HB.out.trans (hb.mono HB.out.size)⟩
set_option maxRecDepth 100000 in
set_option maxHeartbeats 4000000 in
theorem rtext_0 (b : Nat) (c : Int) (o n : Nat) (lb lc lo ln : List UInt8) (w : World) (HR : Hid (∀ w, Calls Tryd.prog 11 #[.agg #[.int .i64 0, .int .u64 (b : Int), .int .i64 c, .int .u64 (o : Int), .int .u64 (n : Int)]] w (Gives (.bool true) w))) (HT : Hid (RTxs ⟨0, b, c, o, n⟩ lb lc lo ln)) (Z : List UInt8)
    (HZ : Hid (Z = Ac.wordOf 0 ++ Ac.part (Ac.fb 0) lb ++ Ac.part (Ac.fc 0) lc ++ Ac.part (Ac.fo 0) lo ++ Ac.part (Ac.fn 0) ln)) :
    Calls Tryd.prog 23 #[.agg #[.int .i64 0, .int .u64 (b : Int), .int .i64 c, .int .u64 (o : Int), .int .u64 (n : Int)]] w (Gives (.string ⟨Z.toArray⟩) w) := by
  have hZ : Z = [110, 111, 110, 101] := by rw [HZ.out]; simp [Ac.wordOf, Ac.part, Ac.fb, Ac.fc, Ac.fo, Ac.fn]
  subst hZ
  clear HZ
  have HW := Lib.hid fun w => rword_0 w
  have HB := Lib.hid (boxed_below w (⟨0, b, c, o, n⟩ : A))
  go_enter Tryd.func23, Tryd.ntmps23
  go_wp2_with fail
  with_reducible refine (HR.out _).mono ?_
  rintro e w0 ⟨rfl, hb⟩
  obtain ⟨c0, c1, c2, c3, c4⟩ := boxed_cells (x := ⟨0, b, c, o, n⟩) hb
  have B := Lib.hid hb; clear hb
  go_wp2_with fail
  with_reducible refine (HW.out _).mono ?_
  rintro e w1 ⟨rfl, hb⟩
  clear c0 c1 c2 c3 c4
  have B := Lib.hid (B.out.trans (hb.mono B.out.size)); clear hb
  obtain ⟨c0, c1, c2, c3, c4⟩ := boxed_cells (x := ⟨0, b, c, o, n⟩) B.out
  go_wp2
  go_ret
  exact ⟨rfl, HB.out.trans (B.out.mono HB.out.size)⟩
set_option maxRecDepth 100000 in
set_option maxHeartbeats 4000000 in
theorem rtext_1 (b : Nat) (c : Int) (o n : Nat) (lb lc lo ln : List UInt8) (w : World) (HR : Hid (∀ w, Calls Tryd.prog 11 #[.agg #[.int .i64 1, .int .u64 (b : Int), .int .i64 c, .int .u64 (o : Int), .int .u64 (n : Int)]] w (Gives (.bool true) w))) (HT : Hid (RTxs ⟨1, b, c, o, n⟩ lb lc lo ln)) (Z : List UInt8)
    (HZ : Hid (Z = Ac.wordOf 1 ++ Ac.part (Ac.fb 1) lb ++ Ac.part (Ac.fc 1) lc ++ Ac.part (Ac.fo 1) lo ++ Ac.part (Ac.fn 1) ln)) :
    Calls Tryd.prog 23 #[.agg #[.int .i64 1, .int .u64 (b : Int), .int .i64 c, .int .u64 (o : Int), .int .u64 (n : Int)]] w (Gives (.string ⟨Z.toArray⟩) w) := by
  obtain ⟨m1, hm1⟩ : ∃ a : List UInt8, a = [108, 111, 97, 100] ++ [32] := ⟨_, rfl⟩
  obtain ⟨a1, ha1⟩ : ∃ a : List UInt8, a = m1 ++ lb := ⟨_, rfl⟩
  have hq1 : m1.length ≤ 100 := by rw [hm1]; simp; try omega
  have hl1 : a1.length ≤ 200 := by rw [ha1]; have := HT.out.hb; have := hq1; simp; omega
  have E1 : ∀ W, (Op.stringOp .add ⟨#[108, 111, 97, 100]⟩ ⟨#[32]⟩).run Tryd.prog W = .ok (.string ⟨m1.toArray⟩) W := fun W => by rw [hm1]; exact run_string_add_lists W [108, 111, 97, 100] [32] (by simp) (by simp)
  have D1 : ∀ W, (Op.stringOp .add ⟨m1.toArray⟩ ⟨lb.toArray⟩).run Tryd.prog W = .ok (.string ⟨a1.toArray⟩) W := fun W => by rw [ha1]; exact run_string_add_lists W m1 lb (by omega) (by have := HT.out.hb; omega)
  obtain ⟨m2, hm2⟩ : ∃ a : List UInt8, a = a1 ++ [32] := ⟨_, rfl⟩
  obtain ⟨a2, ha2⟩ : ∃ a : List UInt8, a = m2 ++ lc := ⟨_, rfl⟩
  have hq2 : m2.length ≤ 300 := by rw [hm2]; have := hl1; simp; try omega
  have hl2 : a2.length ≤ 400 := by rw [ha2]; have := HT.out.hc; have := hq2; simp; omega
  have E2 : ∀ W, (Op.stringOp .add ⟨a1.toArray⟩ ⟨#[32]⟩).run Tryd.prog W = .ok (.string ⟨m2.toArray⟩) W := fun W => by rw [hm2]; exact run_string_add_lists W a1 [32] (by omega) (by simp)
  have D2 : ∀ W, (Op.stringOp .add ⟨m2.toArray⟩ ⟨lc.toArray⟩).run Tryd.prog W = .ok (.string ⟨a2.toArray⟩) W := fun W => by rw [ha2]; exact run_string_add_lists W m2 lc (by omega) (by have := HT.out.hc; omega)
  have hZ : Z = a2 := by rw [HZ.out]; simp [Ac.wordOf, Ac.part, Ac.fb, Ac.fc, Ac.fo, Ac.fn, ha1, hm1, ha2, hm2]
  subst hZ
  clear HZ
  clear hl1 ha1 hq1 hm1 hl2 ha2 hq2 hm2
  have HW := Lib.hid fun w => rword_1 w
  have HB := Lib.hid (boxed_below w (⟨1, b, c, o, n⟩ : A))
  go_enter Tryd.func23, Tryd.ntmps23
  go_wp2_with fail
  with_reducible refine (HR.out _).mono ?_
  rintro e w0 ⟨rfl, hb⟩
  obtain ⟨c0, c1, c2, c3, c4⟩ := boxed_cells (x := ⟨1, b, c, o, n⟩) hb
  have B := Lib.hid hb; clear hb
  go_wp2_with fail
  with_reducible refine (HW.out _).mono ?_
  rintro e w1 ⟨rfl, hb⟩
  clear c0 c1 c2 c3 c4
  have B := Lib.hid (B.out.trans (hb.mono B.out.size)); clear hb
  obtain ⟨c0, c1, c2, c3, c4⟩ := boxed_cells (x := ⟨1, b, c, o, n⟩) B.out
  go_wp2_with fail
  with_reducible refine (HT.out.b _).mono ?_
  rintro e w2 ⟨rfl, hb⟩
  clear c0 c1 c2 c3 c4
  have B := Lib.hid (B.out.trans (hb.mono B.out.size)); clear hb
  obtain ⟨c0, c1, c2, c3, c4⟩ := boxed_cells (x := ⟨1, b, c, o, n⟩) B.out
  go_wp2_with fail
  with_reducible refine (HT.out.c _).mono ?_
  rintro e w3 ⟨rfl, hb⟩
  clear c0 c1 c2 c3 c4
  have B := Lib.hid (B.out.trans (hb.mono B.out.size)); clear hb
  obtain ⟨c0, c1, c2, c3, c4⟩ := boxed_cells (x := ⟨1, b, c, o, n⟩) B.out
  go_wp2
  go_ret
  exact ⟨rfl, HB.out.trans (B.out.mono HB.out.size)⟩
set_option maxRecDepth 100000 in
set_option maxHeartbeats 4000000 in
theorem rtext_2 (b : Nat) (c : Int) (o n : Nat) (lb lc lo ln : List UInt8) (w : World) (HR : Hid (∀ w, Calls Tryd.prog 11 #[.agg #[.int .i64 2, .int .u64 (b : Int), .int .i64 c, .int .u64 (o : Int), .int .u64 (n : Int)]] w (Gives (.bool true) w))) (HT : Hid (RTxs ⟨2, b, c, o, n⟩ lb lc lo ln)) (Z : List UInt8)
    (HZ : Hid (Z = Ac.wordOf 2 ++ Ac.part (Ac.fb 2) lb ++ Ac.part (Ac.fc 2) lc ++ Ac.part (Ac.fo 2) lo ++ Ac.part (Ac.fn 2) ln)) :
    Calls Tryd.prog 23 #[.agg #[.int .i64 2, .int .u64 (b : Int), .int .i64 c, .int .u64 (o : Int), .int .u64 (n : Int)]] w (Gives (.string ⟨Z.toArray⟩) w) := by
  obtain ⟨m1, hm1⟩ : ∃ a : List UInt8, a = [115, 116, 111, 114, 101] ++ [32] := ⟨_, rfl⟩
  obtain ⟨a1, ha1⟩ : ∃ a : List UInt8, a = m1 ++ lb := ⟨_, rfl⟩
  have hq1 : m1.length ≤ 100 := by rw [hm1]; simp; try omega
  have hl1 : a1.length ≤ 200 := by rw [ha1]; have := HT.out.hb; have := hq1; simp; omega
  have E1 : ∀ W, (Op.stringOp .add ⟨#[115, 116, 111, 114, 101]⟩ ⟨#[32]⟩).run Tryd.prog W = .ok (.string ⟨m1.toArray⟩) W := fun W => by rw [hm1]; exact run_string_add_lists W [115, 116, 111, 114, 101] [32] (by simp) (by simp)
  have D1 : ∀ W, (Op.stringOp .add ⟨m1.toArray⟩ ⟨lb.toArray⟩).run Tryd.prog W = .ok (.string ⟨a1.toArray⟩) W := fun W => by rw [ha1]; exact run_string_add_lists W m1 lb (by omega) (by have := HT.out.hb; omega)
  obtain ⟨m2, hm2⟩ : ∃ a : List UInt8, a = a1 ++ [32] := ⟨_, rfl⟩
  obtain ⟨a2, ha2⟩ : ∃ a : List UInt8, a = m2 ++ lc := ⟨_, rfl⟩
  have hq2 : m2.length ≤ 300 := by rw [hm2]; have := hl1; simp; try omega
  have hl2 : a2.length ≤ 400 := by rw [ha2]; have := HT.out.hc; have := hq2; simp; omega
  have E2 : ∀ W, (Op.stringOp .add ⟨a1.toArray⟩ ⟨#[32]⟩).run Tryd.prog W = .ok (.string ⟨m2.toArray⟩) W := fun W => by rw [hm2]; exact run_string_add_lists W a1 [32] (by omega) (by simp)
  have D2 : ∀ W, (Op.stringOp .add ⟨m2.toArray⟩ ⟨lc.toArray⟩).run Tryd.prog W = .ok (.string ⟨a2.toArray⟩) W := fun W => by rw [ha2]; exact run_string_add_lists W m2 lc (by omega) (by have := HT.out.hc; omega)
  obtain ⟨m3, hm3⟩ : ∃ a : List UInt8, a = a2 ++ [32] := ⟨_, rfl⟩
  obtain ⟨a3, ha3⟩ : ∃ a : List UInt8, a = m3 ++ ln := ⟨_, rfl⟩
  have hq3 : m3.length ≤ 500 := by rw [hm3]; have := hl2; simp; try omega
  have hl3 : a3.length ≤ 600 := by rw [ha3]; have := HT.out.hn; have := hq3; simp; omega
  have E3 : ∀ W, (Op.stringOp .add ⟨a2.toArray⟩ ⟨#[32]⟩).run Tryd.prog W = .ok (.string ⟨m3.toArray⟩) W := fun W => by rw [hm3]; exact run_string_add_lists W a2 [32] (by omega) (by simp)
  have D3 : ∀ W, (Op.stringOp .add ⟨m3.toArray⟩ ⟨ln.toArray⟩).run Tryd.prog W = .ok (.string ⟨a3.toArray⟩) W := fun W => by rw [ha3]; exact run_string_add_lists W m3 ln (by omega) (by have := HT.out.hn; omega)
  have hZ : Z = a3 := by rw [HZ.out]; simp [Ac.wordOf, Ac.part, Ac.fb, Ac.fc, Ac.fo, Ac.fn, ha1, hm1, ha2, hm2, ha3, hm3]
  subst hZ
  clear HZ
  clear hl1 ha1 hq1 hm1 hl2 ha2 hq2 hm2 hl3 ha3 hq3 hm3
  have HW := Lib.hid fun w => rword_2 w
  have HB := Lib.hid (boxed_below w (⟨2, b, c, o, n⟩ : A))
  go_enter Tryd.func23, Tryd.ntmps23
  go_wp2_with fail
  with_reducible refine (HR.out _).mono ?_
  rintro e w0 ⟨rfl, hb⟩
  obtain ⟨c0, c1, c2, c3, c4⟩ := boxed_cells (x := ⟨2, b, c, o, n⟩) hb
  have B := Lib.hid hb; clear hb
  go_wp2_with fail
  with_reducible refine (HW.out _).mono ?_
  rintro e w1 ⟨rfl, hb⟩
  clear c0 c1 c2 c3 c4
  have B := Lib.hid (B.out.trans (hb.mono B.out.size)); clear hb
  obtain ⟨c0, c1, c2, c3, c4⟩ := boxed_cells (x := ⟨2, b, c, o, n⟩) B.out
  go_wp2_with fail
  with_reducible refine (HT.out.b _).mono ?_
  rintro e w2 ⟨rfl, hb⟩
  clear c0 c1 c2 c3 c4
  have B := Lib.hid (B.out.trans (hb.mono B.out.size)); clear hb
  obtain ⟨c0, c1, c2, c3, c4⟩ := boxed_cells (x := ⟨2, b, c, o, n⟩) B.out
  go_wp2_with fail
  with_reducible refine (HT.out.c _).mono ?_
  rintro e w3 ⟨rfl, hb⟩
  clear c0 c1 c2 c3 c4
  have B := Lib.hid (B.out.trans (hb.mono B.out.size)); clear hb
  obtain ⟨c0, c1, c2, c3, c4⟩ := boxed_cells (x := ⟨2, b, c, o, n⟩) B.out
  go_wp2_with fail
  with_reducible refine (HT.out.n _).mono ?_
  rintro e w4 ⟨rfl, hb⟩
  clear c0 c1 c2 c3 c4
  have B := Lib.hid (B.out.trans (hb.mono B.out.size)); clear hb
  obtain ⟨c0, c1, c2, c3, c4⟩ := boxed_cells (x := ⟨2, b, c, o, n⟩) B.out
  go_wp2
  go_ret
  exact ⟨rfl, HB.out.trans (B.out.mono HB.out.size)⟩
set_option maxRecDepth 100000 in
set_option maxHeartbeats 4000000 in
theorem rtext_3 (b : Nat) (c : Int) (o n : Nat) (lb lc lo ln : List UInt8) (w : World) (HR : Hid (∀ w, Calls Tryd.prog 11 #[.agg #[.int .i64 3, .int .u64 (b : Int), .int .i64 c, .int .u64 (o : Int), .int .u64 (n : Int)]] w (Gives (.bool true) w))) (HT : Hid (RTxs ⟨3, b, c, o, n⟩ lb lc lo ln)) (Z : List UInt8)
    (HZ : Hid (Z = Ac.wordOf 3 ++ Ac.part (Ac.fb 3) lb ++ Ac.part (Ac.fc 3) lc ++ Ac.part (Ac.fo 3) lo ++ Ac.part (Ac.fn 3) ln)) :
    Calls Tryd.prog 23 #[.agg #[.int .i64 3, .int .u64 (b : Int), .int .i64 c, .int .u64 (o : Int), .int .u64 (n : Int)]] w (Gives (.string ⟨Z.toArray⟩) w) := by
  obtain ⟨m1, hm1⟩ : ∃ a : List UInt8, a = [99, 97, 115] ++ [32] := ⟨_, rfl⟩
  obtain ⟨a1, ha1⟩ : ∃ a : List UInt8, a = m1 ++ lb := ⟨_, rfl⟩
  have hq1 : m1.length ≤ 100 := by rw [hm1]; simp; try omega
  have hl1 : a1.length ≤ 200 := by rw [ha1]; have := HT.out.hb; have := hq1; simp; omega
  have E1 : ∀ W, (Op.stringOp .add ⟨#[99, 97, 115]⟩ ⟨#[32]⟩).run Tryd.prog W = .ok (.string ⟨m1.toArray⟩) W := fun W => by rw [hm1]; exact run_string_add_lists W [99, 97, 115] [32] (by simp) (by simp)
  have D1 : ∀ W, (Op.stringOp .add ⟨m1.toArray⟩ ⟨lb.toArray⟩).run Tryd.prog W = .ok (.string ⟨a1.toArray⟩) W := fun W => by rw [ha1]; exact run_string_add_lists W m1 lb (by omega) (by have := HT.out.hb; omega)
  obtain ⟨m2, hm2⟩ : ∃ a : List UInt8, a = a1 ++ [32] := ⟨_, rfl⟩
  obtain ⟨a2, ha2⟩ : ∃ a : List UInt8, a = m2 ++ lc := ⟨_, rfl⟩
  have hq2 : m2.length ≤ 300 := by rw [hm2]; have := hl1; simp; try omega
  have hl2 : a2.length ≤ 400 := by rw [ha2]; have := HT.out.hc; have := hq2; simp; omega
  have E2 : ∀ W, (Op.stringOp .add ⟨a1.toArray⟩ ⟨#[32]⟩).run Tryd.prog W = .ok (.string ⟨m2.toArray⟩) W := fun W => by rw [hm2]; exact run_string_add_lists W a1 [32] (by omega) (by simp)
  have D2 : ∀ W, (Op.stringOp .add ⟨m2.toArray⟩ ⟨lc.toArray⟩).run Tryd.prog W = .ok (.string ⟨a2.toArray⟩) W := fun W => by rw [ha2]; exact run_string_add_lists W m2 lc (by omega) (by have := HT.out.hc; omega)
  obtain ⟨m3, hm3⟩ : ∃ a : List UInt8, a = a2 ++ [32] := ⟨_, rfl⟩
  obtain ⟨a3, ha3⟩ : ∃ a : List UInt8, a = m3 ++ lo := ⟨_, rfl⟩
  have hq3 : m3.length ≤ 500 := by rw [hm3]; have := hl2; simp; try omega
  have hl3 : a3.length ≤ 600 := by rw [ha3]; have := HT.out.ho; have := hq3; simp; omega
  have E3 : ∀ W, (Op.stringOp .add ⟨a2.toArray⟩ ⟨#[32]⟩).run Tryd.prog W = .ok (.string ⟨m3.toArray⟩) W := fun W => by rw [hm3]; exact run_string_add_lists W a2 [32] (by omega) (by simp)
  have D3 : ∀ W, (Op.stringOp .add ⟨m3.toArray⟩ ⟨lo.toArray⟩).run Tryd.prog W = .ok (.string ⟨a3.toArray⟩) W := fun W => by rw [ha3]; exact run_string_add_lists W m3 lo (by omega) (by have := HT.out.ho; omega)
  obtain ⟨m4, hm4⟩ : ∃ a : List UInt8, a = a3 ++ [32] := ⟨_, rfl⟩
  obtain ⟨a4, ha4⟩ : ∃ a : List UInt8, a = m4 ++ ln := ⟨_, rfl⟩
  have hq4 : m4.length ≤ 700 := by rw [hm4]; have := hl3; simp; try omega
  have hl4 : a4.length ≤ 800 := by rw [ha4]; have := HT.out.hn; have := hq4; simp; omega
  have E4 : ∀ W, (Op.stringOp .add ⟨a3.toArray⟩ ⟨#[32]⟩).run Tryd.prog W = .ok (.string ⟨m4.toArray⟩) W := fun W => by rw [hm4]; exact run_string_add_lists W a3 [32] (by omega) (by simp)
  have D4 : ∀ W, (Op.stringOp .add ⟨m4.toArray⟩ ⟨ln.toArray⟩).run Tryd.prog W = .ok (.string ⟨a4.toArray⟩) W := fun W => by rw [ha4]; exact run_string_add_lists W m4 ln (by omega) (by have := HT.out.hn; omega)
  have hZ : Z = a4 := by rw [HZ.out]; simp [Ac.wordOf, Ac.part, Ac.fb, Ac.fc, Ac.fo, Ac.fn, ha1, hm1, ha2, hm2, ha3, hm3, ha4, hm4]
  subst hZ
  clear HZ
  clear hl1 ha1 hq1 hm1 hl2 ha2 hq2 hm2 hl3 ha3 hq3 hm3 hl4 ha4 hq4 hm4
  have HW := Lib.hid fun w => rword_3 w
  have HB := Lib.hid (boxed_below w (⟨3, b, c, o, n⟩ : A))
  go_enter Tryd.func23, Tryd.ntmps23
  go_wp2_with fail
  with_reducible refine (HR.out _).mono ?_
  rintro e w0 ⟨rfl, hb⟩
  obtain ⟨c0, c1, c2, c3, c4⟩ := boxed_cells (x := ⟨3, b, c, o, n⟩) hb
  have B := Lib.hid hb; clear hb
  go_wp2_with fail
  with_reducible refine (HW.out _).mono ?_
  rintro e w1 ⟨rfl, hb⟩
  clear c0 c1 c2 c3 c4
  have B := Lib.hid (B.out.trans (hb.mono B.out.size)); clear hb
  obtain ⟨c0, c1, c2, c3, c4⟩ := boxed_cells (x := ⟨3, b, c, o, n⟩) B.out
  go_wp2_with fail
  with_reducible refine (HT.out.b _).mono ?_
  rintro e w2 ⟨rfl, hb⟩
  clear c0 c1 c2 c3 c4
  have B := Lib.hid (B.out.trans (hb.mono B.out.size)); clear hb
  obtain ⟨c0, c1, c2, c3, c4⟩ := boxed_cells (x := ⟨3, b, c, o, n⟩) B.out
  go_wp2_with fail
  with_reducible refine (HT.out.c _).mono ?_
  rintro e w3 ⟨rfl, hb⟩
  clear c0 c1 c2 c3 c4
  have B := Lib.hid (B.out.trans (hb.mono B.out.size)); clear hb
  obtain ⟨c0, c1, c2, c3, c4⟩ := boxed_cells (x := ⟨3, b, c, o, n⟩) B.out
  go_wp2_with fail
  with_reducible refine (HT.out.o _).mono ?_
  rintro e w4 ⟨rfl, hb⟩
  clear c0 c1 c2 c3 c4
  have B := Lib.hid (B.out.trans (hb.mono B.out.size)); clear hb
  obtain ⟨c0, c1, c2, c3, c4⟩ := boxed_cells (x := ⟨3, b, c, o, n⟩) B.out
  go_wp2_with fail
  with_reducible refine (HT.out.n _).mono ?_
  rintro e w5 ⟨rfl, hb⟩
  clear c0 c1 c2 c3 c4
  have B := Lib.hid (B.out.trans (hb.mono B.out.size)); clear hb
  obtain ⟨c0, c1, c2, c3, c4⟩ := boxed_cells (x := ⟨3, b, c, o, n⟩) B.out
  go_wp2
  go_ret
  exact ⟨rfl, HB.out.trans (B.out.mono HB.out.size)⟩
set_option maxRecDepth 100000 in
set_option maxHeartbeats 4000000 in
theorem rtext_4 (b : Nat) (c : Int) (o n : Nat) (lb lc lo ln : List UInt8) (w : World) (HR : Hid (∀ w, Calls Tryd.prog 11 #[.agg #[.int .i64 4, .int .u64 (b : Int), .int .i64 c, .int .u64 (o : Int), .int .u64 (n : Int)]] w (Gives (.bool true) w))) (HT : Hid (RTxs ⟨4, b, c, o, n⟩ lb lc lo ln)) (Z : List UInt8)
    (HZ : Hid (Z = Ac.wordOf 4 ++ Ac.part (Ac.fb 4) lb ++ Ac.part (Ac.fc 4) lc ++ Ac.part (Ac.fo 4) lo ++ Ac.part (Ac.fn 4) ln)) :
    Calls Tryd.prog 23 #[.agg #[.int .i64 4, .int .u64 (b : Int), .int .i64 c, .int .u64 (o : Int), .int .u64 (n : Int)]] w (Gives (.string ⟨Z.toArray⟩) w) := by
  obtain ⟨m1, hm1⟩ : ∃ a : List UInt8, a = [97, 100, 100] ++ [32] := ⟨_, rfl⟩
  obtain ⟨a1, ha1⟩ : ∃ a : List UInt8, a = m1 ++ lb := ⟨_, rfl⟩
  have hq1 : m1.length ≤ 100 := by rw [hm1]; simp; try omega
  have hl1 : a1.length ≤ 200 := by rw [ha1]; have := HT.out.hb; have := hq1; simp; omega
  have E1 : ∀ W, (Op.stringOp .add ⟨#[97, 100, 100]⟩ ⟨#[32]⟩).run Tryd.prog W = .ok (.string ⟨m1.toArray⟩) W := fun W => by rw [hm1]; exact run_string_add_lists W [97, 100, 100] [32] (by simp) (by simp)
  have D1 : ∀ W, (Op.stringOp .add ⟨m1.toArray⟩ ⟨lb.toArray⟩).run Tryd.prog W = .ok (.string ⟨a1.toArray⟩) W := fun W => by rw [ha1]; exact run_string_add_lists W m1 lb (by omega) (by have := HT.out.hb; omega)
  obtain ⟨m2, hm2⟩ : ∃ a : List UInt8, a = a1 ++ [32] := ⟨_, rfl⟩
  obtain ⟨a2, ha2⟩ : ∃ a : List UInt8, a = m2 ++ lc := ⟨_, rfl⟩
  have hq2 : m2.length ≤ 300 := by rw [hm2]; have := hl1; simp; try omega
  have hl2 : a2.length ≤ 400 := by rw [ha2]; have := HT.out.hc; have := hq2; simp; omega
  have E2 : ∀ W, (Op.stringOp .add ⟨a1.toArray⟩ ⟨#[32]⟩).run Tryd.prog W = .ok (.string ⟨m2.toArray⟩) W := fun W => by rw [hm2]; exact run_string_add_lists W a1 [32] (by omega) (by simp)
  have D2 : ∀ W, (Op.stringOp .add ⟨m2.toArray⟩ ⟨lc.toArray⟩).run Tryd.prog W = .ok (.string ⟨a2.toArray⟩) W := fun W => by rw [ha2]; exact run_string_add_lists W m2 lc (by omega) (by have := HT.out.hc; omega)
  obtain ⟨m3, hm3⟩ : ∃ a : List UInt8, a = a2 ++ [32] := ⟨_, rfl⟩
  obtain ⟨a3, ha3⟩ : ∃ a : List UInt8, a = m3 ++ ln := ⟨_, rfl⟩
  have hq3 : m3.length ≤ 500 := by rw [hm3]; have := hl2; simp; try omega
  have hl3 : a3.length ≤ 600 := by rw [ha3]; have := HT.out.hn; have := hq3; simp; omega
  have E3 : ∀ W, (Op.stringOp .add ⟨a2.toArray⟩ ⟨#[32]⟩).run Tryd.prog W = .ok (.string ⟨m3.toArray⟩) W := fun W => by rw [hm3]; exact run_string_add_lists W a2 [32] (by omega) (by simp)
  have D3 : ∀ W, (Op.stringOp .add ⟨m3.toArray⟩ ⟨ln.toArray⟩).run Tryd.prog W = .ok (.string ⟨a3.toArray⟩) W := fun W => by rw [ha3]; exact run_string_add_lists W m3 ln (by omega) (by have := HT.out.hn; omega)
  have hZ : Z = a3 := by rw [HZ.out]; simp [Ac.wordOf, Ac.part, Ac.fb, Ac.fc, Ac.fo, Ac.fn, ha1, hm1, ha2, hm2, ha3, hm3]
  subst hZ
  clear HZ
  clear hl1 ha1 hq1 hm1 hl2 ha2 hq2 hm2 hl3 ha3 hq3 hm3
  have HW := Lib.hid fun w => rword_4 w
  have HB := Lib.hid (boxed_below w (⟨4, b, c, o, n⟩ : A))
  go_enter Tryd.func23, Tryd.ntmps23
  go_wp2_with fail
  with_reducible refine (HR.out _).mono ?_
  rintro e w0 ⟨rfl, hb⟩
  obtain ⟨c0, c1, c2, c3, c4⟩ := boxed_cells (x := ⟨4, b, c, o, n⟩) hb
  have B := Lib.hid hb; clear hb
  go_wp2_with fail
  with_reducible refine (HW.out _).mono ?_
  rintro e w1 ⟨rfl, hb⟩
  clear c0 c1 c2 c3 c4
  have B := Lib.hid (B.out.trans (hb.mono B.out.size)); clear hb
  obtain ⟨c0, c1, c2, c3, c4⟩ := boxed_cells (x := ⟨4, b, c, o, n⟩) B.out
  go_wp2_with fail
  with_reducible refine (HT.out.b _).mono ?_
  rintro e w2 ⟨rfl, hb⟩
  clear c0 c1 c2 c3 c4
  have B := Lib.hid (B.out.trans (hb.mono B.out.size)); clear hb
  obtain ⟨c0, c1, c2, c3, c4⟩ := boxed_cells (x := ⟨4, b, c, o, n⟩) B.out
  go_wp2_with fail
  with_reducible refine (HT.out.c _).mono ?_
  rintro e w3 ⟨rfl, hb⟩
  clear c0 c1 c2 c3 c4
  have B := Lib.hid (B.out.trans (hb.mono B.out.size)); clear hb
  obtain ⟨c0, c1, c2, c3, c4⟩ := boxed_cells (x := ⟨4, b, c, o, n⟩) B.out
  go_wp2_with fail
  with_reducible refine (HT.out.n _).mono ?_
  rintro e w4 ⟨rfl, hb⟩
  clear c0 c1 c2 c3 c4
  have B := Lib.hid (B.out.trans (hb.mono B.out.size)); clear hb
  obtain ⟨c0, c1, c2, c3, c4⟩ := boxed_cells (x := ⟨4, b, c, o, n⟩) B.out
  go_wp2
  go_ret
  exact ⟨rfl, HB.out.trans (B.out.mono HB.out.size)⟩
set_option maxRecDepth 100000 in
set_option maxHeartbeats 4000000 in
theorem rtext_5 (b : Nat) (c : Int) (o n : Nat) (lb lc lo ln : List UInt8) (w : World) (HR : Hid (∀ w, Calls Tryd.prog 11 #[.agg #[.int .i64 5, .int .u64 (b : Int), .int .i64 c, .int .u64 (o : Int), .int .u64 (n : Int)]] w (Gives (.bool true) w))) (HT : Hid (RTxs ⟨5, b, c, o, n⟩ lb lc lo ln)) (Z : List UInt8)
    (HZ : Hid (Z = Ac.wordOf 5 ++ Ac.part (Ac.fb 5) lb ++ Ac.part (Ac.fc 5) lc ++ Ac.part (Ac.fo 5) lo ++ Ac.part (Ac.fn 5) ln)) :
    Calls Tryd.prog 23 #[.agg #[.int .i64 5, .int .u64 (b : Int), .int .i64 c, .int .u64 (o : Int), .int .u64 (n : Int)]] w (Gives (.string ⟨Z.toArray⟩) w) := by
  obtain ⟨m1, hm1⟩ : ∃ a : List UInt8, a = [97, 108, 108, 111, 99] ++ [32] := ⟨_, rfl⟩
  obtain ⟨a1, ha1⟩ : ∃ a : List UInt8, a = m1 ++ lc := ⟨_, rfl⟩
  have hq1 : m1.length ≤ 100 := by rw [hm1]; simp; try omega
  have hl1 : a1.length ≤ 200 := by rw [ha1]; have := HT.out.hc; have := hq1; simp; omega
  have E1 : ∀ W, (Op.stringOp .add ⟨#[97, 108, 108, 111, 99]⟩ ⟨#[32]⟩).run Tryd.prog W = .ok (.string ⟨m1.toArray⟩) W := fun W => by rw [hm1]; exact run_string_add_lists W [97, 108, 108, 111, 99] [32] (by simp) (by simp)
  have D1 : ∀ W, (Op.stringOp .add ⟨m1.toArray⟩ ⟨lc.toArray⟩).run Tryd.prog W = .ok (.string ⟨a1.toArray⟩) W := fun W => by rw [ha1]; exact run_string_add_lists W m1 lc (by omega) (by have := HT.out.hc; omega)
  have hZ : Z = a1 := by rw [HZ.out]; simp [Ac.wordOf, Ac.part, Ac.fb, Ac.fc, Ac.fo, Ac.fn, ha1, hm1]
  subst hZ
  clear HZ
  clear hl1 ha1 hq1 hm1
  have HW := Lib.hid fun w => rword_5 w
  have HB := Lib.hid (boxed_below w (⟨5, b, c, o, n⟩ : A))
  go_enter Tryd.func23, Tryd.ntmps23
  go_wp2_with fail
  with_reducible refine (HR.out _).mono ?_
  rintro e w0 ⟨rfl, hb⟩
  obtain ⟨c0, c1, c2, c3, c4⟩ := boxed_cells (x := ⟨5, b, c, o, n⟩) hb
  have B := Lib.hid hb; clear hb
  go_wp2_with fail
  with_reducible refine (HW.out _).mono ?_
  rintro e w1 ⟨rfl, hb⟩
  clear c0 c1 c2 c3 c4
  have B := Lib.hid (B.out.trans (hb.mono B.out.size)); clear hb
  obtain ⟨c0, c1, c2, c3, c4⟩ := boxed_cells (x := ⟨5, b, c, o, n⟩) B.out
  go_wp2_with fail
  with_reducible refine (HT.out.c _).mono ?_
  rintro e w2 ⟨rfl, hb⟩
  clear c0 c1 c2 c3 c4
  have B := Lib.hid (B.out.trans (hb.mono B.out.size)); clear hb
  obtain ⟨c0, c1, c2, c3, c4⟩ := boxed_cells (x := ⟨5, b, c, o, n⟩) B.out
  go_wp2
  go_ret
  exact ⟨rfl, HB.out.trans (B.out.mono HB.out.size)⟩
set_option maxRecDepth 100000 in
set_option maxHeartbeats 4000000 in
theorem rtext_6 (b : Nat) (c : Int) (o n : Nat) (lb lc lo ln : List UInt8) (w : World) (HR : Hid (∀ w, Calls Tryd.prog 11 #[.agg #[.int .i64 6, .int .u64 (b : Int), .int .i64 c, .int .u64 (o : Int), .int .u64 (n : Int)]] w (Gives (.bool true) w))) (HT : Hid (RTxs ⟨6, b, c, o, n⟩ lb lc lo ln)) (Z : List UInt8)
    (HZ : Hid (Z = Ac.wordOf 6 ++ Ac.part (Ac.fb 6) lb ++ Ac.part (Ac.fc 6) lc ++ Ac.part (Ac.fo 6) lo ++ Ac.part (Ac.fn 6) ln)) :
    Calls Tryd.prog 23 #[.agg #[.int .i64 6, .int .u64 (b : Int), .int .i64 c, .int .u64 (o : Int), .int .u64 (n : Int)]] w (Gives (.string ⟨Z.toArray⟩) w) := by
  obtain ⟨m1, hm1⟩ : ∃ a : List UInt8, a = [102, 114, 101, 101] ++ [32] := ⟨_, rfl⟩
  obtain ⟨a1, ha1⟩ : ∃ a : List UInt8, a = m1 ++ lb := ⟨_, rfl⟩
  have hq1 : m1.length ≤ 100 := by rw [hm1]; simp; try omega
  have hl1 : a1.length ≤ 200 := by rw [ha1]; have := HT.out.hb; have := hq1; simp; omega
  have E1 : ∀ W, (Op.stringOp .add ⟨#[102, 114, 101, 101]⟩ ⟨#[32]⟩).run Tryd.prog W = .ok (.string ⟨m1.toArray⟩) W := fun W => by rw [hm1]; exact run_string_add_lists W [102, 114, 101, 101] [32] (by simp) (by simp)
  have D1 : ∀ W, (Op.stringOp .add ⟨m1.toArray⟩ ⟨lb.toArray⟩).run Tryd.prog W = .ok (.string ⟨a1.toArray⟩) W := fun W => by rw [ha1]; exact run_string_add_lists W m1 lb (by omega) (by have := HT.out.hb; omega)
  have hZ : Z = a1 := by rw [HZ.out]; simp [Ac.wordOf, Ac.part, Ac.fb, Ac.fc, Ac.fo, Ac.fn, ha1, hm1]
  subst hZ
  clear HZ
  clear hl1 ha1 hq1 hm1
  have HW := Lib.hid fun w => rword_6 w
  have HB := Lib.hid (boxed_below w (⟨6, b, c, o, n⟩ : A))
  go_enter Tryd.func23, Tryd.ntmps23
  go_wp2_with fail
  with_reducible refine (HR.out _).mono ?_
  rintro e w0 ⟨rfl, hb⟩
  obtain ⟨c0, c1, c2, c3, c4⟩ := boxed_cells (x := ⟨6, b, c, o, n⟩) hb
  have B := Lib.hid hb; clear hb
  go_wp2_with fail
  with_reducible refine (HW.out _).mono ?_
  rintro e w1 ⟨rfl, hb⟩
  clear c0 c1 c2 c3 c4
  have B := Lib.hid (B.out.trans (hb.mono B.out.size)); clear hb
  obtain ⟨c0, c1, c2, c3, c4⟩ := boxed_cells (x := ⟨6, b, c, o, n⟩) B.out
  go_wp2_with fail
  with_reducible refine (HT.out.b _).mono ?_
  rintro e w2 ⟨rfl, hb⟩
  clear c0 c1 c2 c3 c4
  have B := Lib.hid (B.out.trans (hb.mono B.out.size)); clear hb
  obtain ⟨c0, c1, c2, c3, c4⟩ := boxed_cells (x := ⟨6, b, c, o, n⟩) B.out
  go_wp2
  go_ret
  exact ⟨rfl, HB.out.trans (B.out.mono HB.out.size)⟩
end Go.Proofs.YthgabbkpjffdnaaDoor
