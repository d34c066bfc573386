/-
  Several texts in one: The walks of Take, way by way: the block, or none; the next word, or the end. (gen_take.py); The walks of Start, Claim, Whole, spread, times, xor. By an AI agent.
-/
import Derived.Test.YtknefjigdlbacaaGreatDoorSkGAG
import Derived.Test.YtknefjigdlbacaaGreatDoorSkGAE
import Derived.Test.YtknefjigdlbacaaGreatDoorChecked
import Derived.Test.YtknefjigdlbacaaGreatDoorSkGAD
import Derived.WalkKit
import Derived.WalkSpells
import Derived.WalkLawsBesides
import Derived.WalkMore
import Derived.Below
import Derived.Lib.Hide
import Derived.IntWalk
set_option linter.unusedSimpArgs false
set_option linter.unusedVariables false
namespace Go.Proofs.YtknefjigdlbacaaGreatDoor
open Go.RowKit Go.Maps
open Ac (A)
/-- It returns nothing, the maker is as told, and nothing else changes. -/
def Took (q : Nat) (f y : A) (ad : Option Addr) (n c b : Nat) (w : World) (e : Ending) (w' : World) : Prop := e = .returned (.tuple #[]) ∧ Mk w' q f y ad n c b ∧ Chg q w w'
/-- What was told lies in a box. -/
theorem mbox (w : World) (x : A) : (boxed w x).cell? ⟨w.heap.size, 0, none⟩ = some (.int .i64 x.k) ∧ (boxed w x).cell? ⟨w.heap.size, 1, none⟩ = some (.int .u64 (x.b : Int)) ∧ (boxed w x).cell? ⟨w.heap.size, 2, none⟩ = some (.int .i64 x.c) ∧ (boxed w x).cell? ⟨w.heap.size, 3, none⟩ = some (.int .u64 (x.o : Int)) ∧ (boxed w x).cell? ⟨w.heap.size, 4, none⟩ = some (.int .u64 (x.n : Int)) := boxed_cells (Below.refl _ _)
theorem eqB_self (a0 a1 a2 a3 a4 : Int) : eqB a0 a1 a2 a3 a4 a0 a1 a2 a3 a4 = true := by simp [eqB]
theorem eqB_kind {a0 a1 a2 a3 a4 b0 b1 b2 b3 b4 : Int} (h : a0 ≠ b0) : eqB a0 a1 a2 a3 a4 b0 b1 b2 b3 b4 = false := by simp [eqB, h]
theorem Mk.drew {w : World} {q n c b : Nat} {f x : A} {ad : Option Addr} (h : Mk w q f x ad n c b) : Mk w.drew q f x ad n c b := h
theorem Chg.drew {q : Nat} {w w' : World} (h : Chg q w w') : Chg q w w'.drew := h.trans (Tn.of_below (Below.refl _ w').drew)
set_option maxRecDepth 100000 in
set_option maxHeartbeats 4000000 in
/-- No block was given out. -/
theorem mtake_zero (w : World) (q n c b : Nat) (ad : Option Addr) (h : Mk w q ⟨5, 0, n, 0, 0⟩ ⟨5, 0, n, 0, 0⟩ ad n c b) : Calls Tryz.prog 187 #[.pointer (some ⟨q, 0, none⟩), .int .u64 0] w (Took q ⟨5, 0, n, 0, 0⟩ ⟨0, 0, 0, 0, 0⟩ ad n c 0 w) := by
  have K := Lib.hid (mact_any w q n c b _ _ ad h)
  have HM := Lib.hid h; clear h
  have q1 := ne_act 5 0 n 0 0 5 0 n 0 0
  rw [eqB_self] at q1
  go_enter Tryz.func187, Tryz.ntmps187
  refine scope_hops 3 ?_
  go_wp2_with fail
  with_reducible refine K.out.mono ?_
  rintro e w1 ⟨rfl, hb⟩
  rw [show (!isz ⟨5, 0, n, 0, 0⟩) = true from rfl]
  obtain ⟨W, hW⟩ : ∃ W, W = w1.alloc (.cells #[.int .i64 5, .int .u64 0, .int .i64 ((n : Nat) : Int), .int .u64 0, .int .u64 0] 35) := ⟨_, rfl⟩
  have hb1 : Below w1.heap.size w1 W := by rw [hW]; exact (Below.refl _ _).alloc (Nat.le_refl _) _
  obtain ⟨e0, e1, e2, e3, e4⟩ := mbox w1 ⟨5, 0, n, 0, 0⟩
  rw [show boxed w1 ⟨5, 0, n, 0, 0⟩ = W from hW.symm] at e0 e1 e2 e3 e4
  have d0 : W.cell? ⟨w1.heap.size, 0, none⟩ = some (.int .i64 5) := e0
  have d1 : W.cell? ⟨w1.heap.size, 1, none⟩ = some (.int .u64 0) := e1
  have d2 : W.cell? ⟨w1.heap.size, 2, none⟩ = some (.int .i64 ((n : Nat) : Int)) := e2
  have d3 : W.cell? ⟨w1.heap.size, 3, none⟩ = some (.int .u64 0) := e3
  have d4 : W.cell? ⟨w1.heap.size, 4, none⟩ = some (.int .u64 0) := e4
  clear e0 e1 e2 e3 e4
  have hm : q ≠ w1.heap.size := by have := (HM.out.below hb).lt; omega
  have HM1 := Lib.hid ((HM.out.below hb).below hb1)
  have HB := Lib.hid (hb.trans (hb1.mono hb.size))
  clear hb hb1
  go_wp2
  rw [← hW]
  clear hW HM
  generalize w1.heap.size = m at d0 d1 d2 d3 d4 hm ⊢
  have c0 : W.cell? ⟨q, 0, none⟩ = some (.int .i64 5) := HM1.out.c0
  have c1 : W.cell? ⟨q, 1, none⟩ = some (.int .u64 0) := HM1.out.c1
  have c2 : W.cell? ⟨q, 2, none⟩ = some (.int .i64 (n : Int)) := HM1.out.c2
  have c3 : W.cell? ⟨q, 3, none⟩ = some (.int .u64 0) := HM1.out.c3
  have c4 : W.cell? ⟨q, 4, none⟩ = some (.int .u64 0) := HM1.out.c4
  have c5 : W.cell? ⟨q, 5, none⟩ = some (.int .i64 5) := HM1.out.c5
  have c6 : W.cell? ⟨q, 6, none⟩ = some (.int .u64 0) := HM1.out.c6
  have c7 : W.cell? ⟨q, 7, none⟩ = some (.int .i64 ((n : Nat) : Int)) := HM1.out.c7
  have c8 : W.cell? ⟨q, 8, none⟩ = some (.int .u64 0) := HM1.out.c8
  have c9 : W.cell? ⟨q, 9, none⟩ = some (.int .u64 0) := HM1.out.c9
  have c10 := HM1.out.c10
  have c11 := HM1.out.c11
  have f5 := HM1.out.fz 5
  have f6 := HM1.out.fz 6
  have f7 := HM1.out.fz 7
  have f8 := HM1.out.fz 8
  have f9 := HM1.out.fz 9
  have f11 := HM1.out.fz 11
  go_region
  all_goals go_wp2
  all_goals go_step3
  all_goals refine Hop.go rfl ?_
  all_goals go_wp2
  all_goals rw [Hop.normal]
  all_goals go_end0
  all_goals exact ⟨rfl, ((HM1.out.setb 0).put5 ⟨0, 0, 0, 0, 0⟩).drew, (((Chg.set (Tn.of_below HB.out) 11 _ HM1.out.lt).put5 ⟨0, 0, 0, 0, 0⟩ (HM1.out.setb 0).lt).drew)⟩
set_option maxRecDepth 100000 in
set_option maxHeartbeats 4000000 in
/-- A block was given out: the first word. -/
theorem mtake_first (w : World) (q n c b v y : Nat) (ad : Option Addr) (hv : v ≠ 0) (hn : 0 < n) (hwd : ∃ g, ad = some ⟨g, 0, none⟩ ∧ g ≠ q ∧ g < w.heap.size ∧ w.cell? ⟨g, 0, none⟩ = some (.int .u64 (y : Int))) (h : Mk w q ⟨5, 0, n, 0, 0⟩ ⟨5, 0, n, 0, 0⟩ ad n c b) : Calls Tryz.prog 187 #[.pointer (some ⟨q, 0, none⟩), .int .u64 (v : Int)] w (Took q ⟨5, 0, n, 0, 0⟩ ⟨2, v, 0, 0, y⟩ ad n c v w) := by
  have K := Lib.hid (mact_any w q n c b _ _ ad h)
  have HM := Lib.hid h; clear h
  have q1 := ne_act 5 0 n 0 0 5 0 n 0 0
  rw [eqB_self] at q1
  have hv0 : ((v : Int) == 0) = false := by simp; omega
  have hn0 : ((0 : Nat) : Int) < (n : Int) := by omega
  obtain ⟨g, hg, hgq, hgl, hc⟩ := hwd
  subst hg
  have HW : Hid (∀ V : World, V.heap[g]? = w.heap[g]? → V.cell? ⟨g, 0, none⟩ = some (.int .u64 (y : Int))) := Lib.hid (fun V e => by rw [World.cell?, e]; exact hc)
  have GL : Hid (g < w.heap.size ∧ g ≠ q) := Lib.hid ⟨hgl, hgq⟩
  go_enter Tryz.func187, Tryz.ntmps187
  refine scope_hops 3 ?_
  go_wp2_with fail
  with_reducible refine K.out.mono ?_
  rintro e w1 ⟨rfl, hb⟩
  rw [show (!isz ⟨5, 0, n, 0, 0⟩) = true from rfl]
  obtain ⟨W, hW⟩ : ∃ W, W = w1.alloc (.cells #[.int .i64 5, .int .u64 0, .int .i64 ((n : Nat) : Int), .int .u64 0, .int .u64 0] 35) := ⟨_, rfl⟩
  have hb1 : Below w1.heap.size w1 W := by rw [hW]; exact (Below.refl _ _).alloc (Nat.le_refl _) _
  obtain ⟨e0, e1, e2, e3, e4⟩ := mbox w1 ⟨5, 0, n, 0, 0⟩
  rw [show boxed w1 ⟨5, 0, n, 0, 0⟩ = W from hW.symm] at e0 e1 e2 e3 e4
  have d0 : W.cell? ⟨w1.heap.size, 0, none⟩ = some (.int .i64 5) := e0
  have d1 : W.cell? ⟨w1.heap.size, 1, none⟩ = some (.int .u64 0) := e1
  have d2 : W.cell? ⟨w1.heap.size, 2, none⟩ = some (.int .i64 ((n : Nat) : Int)) := e2
  have d3 : W.cell? ⟨w1.heap.size, 3, none⟩ = some (.int .u64 0) := e3
  have d4 : W.cell? ⟨w1.heap.size, 4, none⟩ = some (.int .u64 0) := e4
  clear e0 e1 e2 e3 e4
  have hm : q ≠ w1.heap.size := by have := (HM.out.below hb).lt; omega
  have HM1 := Lib.hid ((HM.out.below hb).below hb1)
  have HB := Lib.hid (hb.trans (hb1.mono hb.size))
  clear hb hb1
  go_wp2
  rw [← hW]
  clear hW HM
  generalize w1.heap.size = m at d0 d1 d2 d3 d4 hm ⊢
  have c0 : W.cell? ⟨q, 0, none⟩ = some (.int .i64 5) := HM1.out.c0
  have c1 : W.cell? ⟨q, 1, none⟩ = some (.int .u64 0) := HM1.out.c1
  have c2 : W.cell? ⟨q, 2, none⟩ = some (.int .i64 (n : Int)) := HM1.out.c2
  have c3 : W.cell? ⟨q, 3, none⟩ = some (.int .u64 0) := HM1.out.c3
  have c4 : W.cell? ⟨q, 4, none⟩ = some (.int .u64 0) := HM1.out.c4
  have c5 : W.cell? ⟨q, 5, none⟩ = some (.int .i64 5) := HM1.out.c5
  have c6 : W.cell? ⟨q, 6, none⟩ = some (.int .u64 0) := HM1.out.c6
  have c7 : W.cell? ⟨q, 7, none⟩ = some (.int .i64 ((n : Nat) : Int)) := HM1.out.c7
  have c8 : W.cell? ⟨q, 8, none⟩ = some (.int .u64 0) := HM1.out.c8
  have c9 : W.cell? ⟨q, 9, none⟩ = some (.int .u64 0) := HM1.out.c9
  have c10 := HM1.out.c10
  have c11 := HM1.out.c11
  have f5 := HM1.out.fz 5
  have f6 := HM1.out.fz 6
  have f7 := HM1.out.fz 7
  have f8 := HM1.out.fz 8
  have f9 := HM1.out.fz 9
  have f11 := HM1.out.fz 11
  go_region
  all_goals go_wp2
  all_goals go_step3
  all_goals refine Hop.go rfl ?_
  all_goals obtain ⟨V, hV⟩ : ∃ V, V = (W.setCell ⟨q, 11, none⟩ (.int .u64 (v : Int))).drew := ⟨_, rfl⟩
  all_goals rw [← hV]
  all_goals have HV : Hid (Mk V q ⟨5, 0, n, 0, 0⟩ ⟨5, 0, n, 0, 0⟩ (some ⟨g, 0, none⟩) n c v) := Lib.hid (by rw [hV]; exact (HM1.out.setb v).drew)
  all_goals have HC : Hid (Chg q w V) := Lib.hid (by rw [hV]; exact (Chg.set (Tn.of_below HB.out) 11 _ HM1.out.lt).drew)
  all_goals have g0 := HW.out V (by rw [hV]; exact (Below.heap_setCell _ _ _ _ GL.out.2).trans (HB.out.block g GL.out.1))
  all_goals clear hV c0 c1 c2 c3 c4 c5 c6 c7 c8 c9 c10 c11 f5 f6 f7 f8 f9 f11 HW
  all_goals have c5 : V.cell? ⟨q, 5, none⟩ = some (.int .i64 5) := HV.out.c5
  all_goals have c6 : V.cell? ⟨q, 6, none⟩ = some (.int .u64 0) := HV.out.c6
  all_goals have c7 : V.cell? ⟨q, 7, none⟩ = some (.int .i64 (n : Int)) := HV.out.c7
  all_goals have c8 : V.cell? ⟨q, 8, none⟩ = some (.int .u64 0) := HV.out.c8
  all_goals have c9 : V.cell? ⟨q, 9, none⟩ = some (.int .u64 0) := HV.out.c9
  all_goals have c10 := HV.out.c10
  all_goals have c11 := HV.out.c11
  all_goals have f5 := HV.out.fz 5
  all_goals have f6 := HV.out.fz 6
  all_goals have f7 := HV.out.fz 7
  all_goals have f8 := HV.out.fz 8
  all_goals have f9 := HV.out.fz 9
  all_goals go_wp2_with fail
  all_goals go_region
  all_goals go_wp2
  all_goals rw [Hop.ret]
  all_goals go_end0
  all_goals exact ⟨rfl, (HV.out.put5 ⟨2, v, 0, 0, y⟩).drew, (HC.out.put5 ⟨2, v, 0, 0, y⟩ HV.out.lt).drew⟩
set_option maxRecDepth 100000 in
set_option maxHeartbeats 4000000 in
/-- The last word is stored: the end. -/
theorem mtake_last (w : World) (q n c b i y : Nat) (ad : Option Addr) (v : Int) (hi : i + 1 = n) (hn : n ≤ 1000000) (h : Mk w q ⟨5, 0, n, 0, 0⟩ ⟨2, b, ((i : Nat) : Int), 0, y⟩ ad n c b) : Calls Tryz.prog 187 #[.pointer (some ⟨q, 0, none⟩), .int .u64 v] w (Took q ⟨5, 0, n, 0, 0⟩ ⟨0, 0, 0, 0, 0⟩ ad n c b w) := by
  have K := Lib.hid (mact_any w q n c b _ _ ad h)
  have HM := Lib.hid h; clear h
  have q1 := ne_act 2 b i 0 y 5 0 n 0 0
  rw [eqB_kind (by decide)] at q1
  have hi' : ((i : Int) + 1 == (n : Int)) = true := by simp; omega
  have hi9 : (i : Int) ≤ 1000000 := by omega
  go_enter Tryz.func187, Tryz.ntmps187
  refine scope_hops 3 ?_
  go_wp2_with fail
  with_reducible refine K.out.mono ?_
  rintro e w1 ⟨rfl, hb⟩
  rw [show (!isz ⟨2, b, ((i : Nat) : Int), 0, y⟩) = true from rfl]
  obtain ⟨W, hW⟩ : ∃ W, W = w1.alloc (.cells #[.int .i64 2, .int .u64 ((b : Nat) : Int), .int .i64 ((i : Nat) : Int), .int .u64 0, .int .u64 ((y : Nat) : Int)] 35) := ⟨_, rfl⟩
  have hb1 : Below w1.heap.size w1 W := by rw [hW]; exact (Below.refl _ _).alloc (Nat.le_refl _) _
  obtain ⟨e0, e1, e2, e3, e4⟩ := mbox w1 ⟨2, b, ((i : Nat) : Int), 0, y⟩
  rw [show boxed w1 ⟨2, b, ((i : Nat) : Int), 0, y⟩ = W from hW.symm] at e0 e1 e2 e3 e4
  have d0 : W.cell? ⟨w1.heap.size, 0, none⟩ = some (.int .i64 2) := e0
  have d1 : W.cell? ⟨w1.heap.size, 1, none⟩ = some (.int .u64 ((b : Nat) : Int)) := e1
  have d2 : W.cell? ⟨w1.heap.size, 2, none⟩ = some (.int .i64 ((i : Nat) : Int)) := e2
  have d3 : W.cell? ⟨w1.heap.size, 3, none⟩ = some (.int .u64 0) := e3
  have d4 : W.cell? ⟨w1.heap.size, 4, none⟩ = some (.int .u64 ((y : Nat) : Int)) := e4
  clear e0 e1 e2 e3 e4
  have hm : q ≠ w1.heap.size := by have := (HM.out.below hb).lt; omega
  have HM1 := Lib.hid ((HM.out.below hb).below hb1)
  have HB := Lib.hid (hb.trans (hb1.mono hb.size))
  clear hb hb1
  go_wp2
  rw [← hW]
  clear hW HM
  generalize w1.heap.size = m at d0 d1 d2 d3 d4 hm ⊢
  have c0 : W.cell? ⟨q, 0, none⟩ = some (.int .i64 5) := HM1.out.c0
  have c1 : W.cell? ⟨q, 1, none⟩ = some (.int .u64 0) := HM1.out.c1
  have c2 : W.cell? ⟨q, 2, none⟩ = some (.int .i64 (n : Int)) := HM1.out.c2
  have c3 : W.cell? ⟨q, 3, none⟩ = some (.int .u64 0) := HM1.out.c3
  have c4 : W.cell? ⟨q, 4, none⟩ = some (.int .u64 0) := HM1.out.c4
  have c5 : W.cell? ⟨q, 5, none⟩ = some (.int .i64 2) := HM1.out.c5
  have c6 : W.cell? ⟨q, 6, none⟩ = some (.int .u64 ((b : Nat) : Int)) := HM1.out.c6
  have c7 : W.cell? ⟨q, 7, none⟩ = some (.int .i64 ((i : Nat) : Int)) := HM1.out.c7
  have c8 : W.cell? ⟨q, 8, none⟩ = some (.int .u64 0) := HM1.out.c8
  have c9 : W.cell? ⟨q, 9, none⟩ = some (.int .u64 ((y : Nat) : Int)) := HM1.out.c9
  have c10 := HM1.out.c10
  have c11 := HM1.out.c11
  have f5 := HM1.out.fz 5
  have f6 := HM1.out.fz 6
  have f7 := HM1.out.fz 7
  have f8 := HM1.out.fz 8
  have f9 := HM1.out.fz 9
  have f11 := HM1.out.fz 11
  go_region
  all_goals go_wp2
  all_goals go_step3
  all_goals refine Hop.go rfl ?_
  all_goals go_wp2
  all_goals go_step3
  all_goals refine Hop.go rfl ?_
  all_goals go_wp2
  all_goals rw [Hop.normal]
  all_goals go_end0
  all_goals exact ⟨rfl, (HM1.out.put5 ⟨0, 0, 0, 0, 0⟩).drew, ((Chg.put5 (Tn.of_below HB.out) ⟨0, 0, 0, 0, 0⟩ HM1.out.lt).drew)⟩
set_option maxRecDepth 100000 in
set_option maxHeartbeats 4000000 in
/-- A word is stored: the next one. -/
theorem mtake_next (w : World) (q n c b i y y2 : Nat) (ad : Option Addr) (v : Int) (hi : i + 1 < n) (hn : n ≤ 1000000) (hwd : ∃ g, ad = some ⟨g, 0, none⟩ ∧ g ≠ q ∧ g < w.heap.size ∧ w.cell? ⟨g, i + 1, none⟩ = some (.int .u64 (y2 : Int))) (h : Mk w q ⟨5, 0, n, 0, 0⟩ ⟨2, b, ((i : Nat) : Int), 0, y⟩ ad n c b) : Calls Tryz.prog 187 #[.pointer (some ⟨q, 0, none⟩), .int .u64 v] w (Took q ⟨5, 0, n, 0, 0⟩ ⟨2, b, ((i + 1 : Nat) : Int), 0, y2⟩ ad n c b w) := by
  have K := Lib.hid (mact_any w q n c b _ _ ad h)
  have HM := Lib.hid h; clear h
  have q1 := ne_act 2 b i 0 y 5 0 n 0 0
  rw [eqB_kind (by decide)] at q1
  have hi' : ((i : Int) + 1 == (n : Int)) = false := by simp; omega
  have hi9 : (i : Int) ≤ 1000000 := by omega
  obtain ⟨j, hj⟩ : ∃ j : Nat, j = i + 1 := ⟨_, rfl⟩
  have hj' : (i : Int) + 1 = (j : Int) := by omega
  have hjn : (j : Int) < (n : Int) := by omega
  have hj0 : (0 : Int) ≤ (j : Int) := by omega
  rw [hj'] at hi'
  obtain ⟨g, hg, hgq, hgl, hc⟩ := hwd
  subst hg
  rw [← hj] at hc ⊢
  have HW : Hid (∀ V : World, V.heap[g]? = w.heap[g]? → V.cell? ⟨g, j, none⟩ = some (.int .u64 (y2 : Int))) := Lib.hid (fun V e => by rw [World.cell?, e]; exact hc)
  have GL : Hid (g < w.heap.size ∧ g ≠ q) := Lib.hid ⟨hgl, hgq⟩
  clear hj
  go_enter Tryz.func187, Tryz.ntmps187
  refine scope_hops 3 ?_
  go_wp2_with fail
  with_reducible refine K.out.mono ?_
  rintro e w1 ⟨rfl, hb⟩
  rw [show (!isz ⟨2, b, ((i : Nat) : Int), 0, y⟩) = true from rfl]
  obtain ⟨W, hW⟩ : ∃ W, W = w1.alloc (.cells #[.int .i64 2, .int .u64 ((b : Nat) : Int), .int .i64 ((i : Nat) : Int), .int .u64 0, .int .u64 ((y : Nat) : Int)] 35) := ⟨_, rfl⟩
  have hb1 : Below w1.heap.size w1 W := by rw [hW]; exact (Below.refl _ _).alloc (Nat.le_refl _) _
  obtain ⟨e0, e1, e2, e3, e4⟩ := mbox w1 ⟨2, b, ((i : Nat) : Int), 0, y⟩
  rw [show boxed w1 ⟨2, b, ((i : Nat) : Int), 0, y⟩ = W from hW.symm] at e0 e1 e2 e3 e4
  have d0 : W.cell? ⟨w1.heap.size, 0, none⟩ = some (.int .i64 2) := e0
  have d1 : W.cell? ⟨w1.heap.size, 1, none⟩ = some (.int .u64 ((b : Nat) : Int)) := e1
  have d2 : W.cell? ⟨w1.heap.size, 2, none⟩ = some (.int .i64 ((i : Nat) : Int)) := e2
  have d3 : W.cell? ⟨w1.heap.size, 3, none⟩ = some (.int .u64 0) := e3
  have d4 : W.cell? ⟨w1.heap.size, 4, none⟩ = some (.int .u64 ((y : Nat) : Int)) := e4
  clear e0 e1 e2 e3 e4
  have hm : q ≠ w1.heap.size := by have := (HM.out.below hb).lt; omega
  have HM1 := Lib.hid ((HM.out.below hb).below hb1)
  have HB := Lib.hid (hb.trans (hb1.mono hb.size))
  clear hb hb1
  go_wp2
  rw [← hW]
  clear hW HM
  generalize w1.heap.size = m at d0 d1 d2 d3 d4 hm ⊢
  have c0 : W.cell? ⟨q, 0, none⟩ = some (.int .i64 5) := HM1.out.c0
  have c1 : W.cell? ⟨q, 1, none⟩ = some (.int .u64 0) := HM1.out.c1
  have c2 : W.cell? ⟨q, 2, none⟩ = some (.int .i64 (n : Int)) := HM1.out.c2
  have c3 : W.cell? ⟨q, 3, none⟩ = some (.int .u64 0) := HM1.out.c3
  have c4 : W.cell? ⟨q, 4, none⟩ = some (.int .u64 0) := HM1.out.c4
  have c5 : W.cell? ⟨q, 5, none⟩ = some (.int .i64 2) := HM1.out.c5
  have c6 : W.cell? ⟨q, 6, none⟩ = some (.int .u64 ((b : Nat) : Int)) := HM1.out.c6
  have c7 : W.cell? ⟨q, 7, none⟩ = some (.int .i64 ((i : Nat) : Int)) := HM1.out.c7
  have c8 : W.cell? ⟨q, 8, none⟩ = some (.int .u64 0) := HM1.out.c8
  have c9 : W.cell? ⟨q, 9, none⟩ = some (.int .u64 ((y : Nat) : Int)) := HM1.out.c9
  have c10 := HM1.out.c10
  have c11 := HM1.out.c11
  have f5 := HM1.out.fz 5
  have f6 := HM1.out.fz 6
  have f7 := HM1.out.fz 7
  have f8 := HM1.out.fz 8
  have f9 := HM1.out.fz 9
  have f11 := HM1.out.fz 11
  go_region
  all_goals go_wp2
  all_goals go_step3
  all_goals refine Hop.go rfl ?_
  all_goals go_wp2
  all_goals apply wp_label
  all_goals obtain ⟨V, hV⟩ : ∃ V, V = (W).drew := ⟨_, rfl⟩
  all_goals rw [← hV]
  all_goals have HV : Hid (Mk V q ⟨5, 0, n, 0, 0⟩ ⟨2, b, (i : Int), 0, y⟩ (some ⟨g, 0, none⟩) n c b) := Lib.hid (by rw [hV]; exact HM1.out.drew)
  all_goals have HC : Hid (Chg q w V) := Lib.hid (by rw [hV]; exact (Chg.drew (Tn.of_below HB.out)))
  all_goals have g0 := HW.out V (by rw [hV]; exact (HB.out.block g GL.out.1))
  all_goals clear hV c0 c1 c2 c3 c4 c5 c6 c7 c8 c9 c10 c11 f5 f6 f7 f8 f9 f11 HW
  all_goals have c5 : V.cell? ⟨q, 5, none⟩ = some (.int .i64 2) := HV.out.c5
  all_goals have c6 : V.cell? ⟨q, 6, none⟩ = some (.int .u64 (b : Int)) := HV.out.c6
  all_goals have c7 : V.cell? ⟨q, 7, none⟩ = some (.int .i64 (i : Int)) := HV.out.c7
  all_goals have c8 : V.cell? ⟨q, 8, none⟩ = some (.int .u64 0) := HV.out.c8
  all_goals have c9 : V.cell? ⟨q, 9, none⟩ = some (.int .u64 (y : Int)) := HV.out.c9
  all_goals have c10 := HV.out.c10
  all_goals have c11 := HV.out.c11
  all_goals have f5 := HV.out.fz 5
  all_goals have f6 := HV.out.fz 6
  all_goals have f7 := HV.out.fz 7
  all_goals have f8 := HV.out.fz 8
  all_goals have f9 := HV.out.fz 9
  all_goals go_wp2_with fail
  all_goals go_region
  all_goals go_wp2
  all_goals rw [Hop.ret]
  all_goals go_end0
  all_goals exact ⟨rfl, (HV.out.put5 ⟨2, b, (j : Int), 0, y2⟩).drew, (HC.out.put5 ⟨2, b, (j : Int), 0, y2⟩ HV.out.lt).drew⟩
end Go.Proofs.YtknefjigdlbacaaGreatDoor
namespace Go.Proofs.YtknefjigdlbacaaGreatDoor
open Go.RowKit
theorem ret_int {k : IntKind} {a b : Int} (h : a = b) : Ending.returned (.int k a) = .returned (.int k b) := by rw [h]
theorem below_then {a b c : World} (h : Below a.heap.size a b) (k : Below b.heap.size b c) : Below a.heap.size a c := h.trans (k.mono h.size)
theorem wrap64_small {x : Int} (h0 : -9223372036854775808 ≤ x) (h1 : x ≤ 9223372036854775807) : wrap64 x = x := by unfold wrap64; omega
theorem u64_wrap_small {x : Int} (h0 : 0 ≤ x) (h1 : x ≤ 18446744073709551615) : IntKind.u64.wrap x = x := by
  simp [IntKind.wrap, IntKind.bits, IntKind.signed]; omega
set_option maxHeartbeats 1000000 in
theorem start_any (h : Int) (w : World) : Calls Tryz.prog 150 #[.int .u64 h] w (Same (.int .u64 (h / 128)) w) := by
  go_enter Tryz.func150, Tryz.ntmps150
  go_wp2
  go_ret
  exact ⟨rfl, rfl⟩
set_option maxHeartbeats 1000000 in
theorem rstart_any (h : Int) (w : World) (h0 : 0 ≤ h) (h1 : h ≤ 18446744073709551615) : Calls Tryz.prog 136 #[.int .u64 h] w (Same (.int .u64 (h / 128)) w) := by
  go_enter Tryz.func136, Tryz.ntmps136
  go_wp2
  go_ret
  exact ⟨rfl, rfl⟩
set_option maxHeartbeats 1000000 in
theorem claim_any (h : Int) (w : World) (h0 : 0 ≤ h) (h1 : h ≤ 18446744073709551615) : Calls Tryz.prog 81 #[.int .u64 h] w (Same (.int .i64 (128 + h % 128)) w) := by
  go_enter Tryz.func81, Tryz.ntmps81
  go_wp2
  go_ret
  refine ⟨ret_int ?_, rfl⟩
  rw [Mx.bits_claim h0 h1]
  exact wrap64_small (by omega) (by omega)
set_option maxHeartbeats 1000000 in
theorem rclaim_any (h : Int) (w : World) (h0 : 0 ≤ h) (h1 : h ≤ 18446744073709551615) : Calls Tryz.prog 44 #[.int .u64 h] w (Same (.int .i64 (128 + h % 128)) w) := by
  go_enter Tryz.func44, Tryz.ntmps44
  go_wp2
  go_ret
  refine ⟨ret_int ?_, rfl⟩
  first | rfl | omega
set_option maxHeartbeats 1000000 in
theorem spread_any (h : Nat) (w : World) (h1 : h < 18446744073709551616) : Calls Tryz.prog 72 #[.int .u64 (h : Int)] w (Same (.int .u64 (Mx.spr h : Nat)) w) := by
  go_enter Tryz.func72, Tryz.ntmps72
  go_wp2
  go_ret
  refine ⟨ret_int ?_, rfl⟩
  exact Mx.bits_spr h1
set_option maxHeartbeats 1000000 in
theorem times_any (a b : Nat) (w : World) : Calls Tryz.prog 99 #[.int .u64 (a : Int), .int .u64 (b : Int)] w (Same (.int .u64 (a * b % 18446744073709551616 : Nat)) w) := by
  go_enter Tryz.func99, Tryz.ntmps99
  go_wp2
  go_ret
  refine ⟨ret_int ?_, rfl⟩
  exact Mx.wrap_mul a b
set_option maxHeartbeats 1000000 in
theorem xor_any (a b : Nat) (w : World) (ha : a < 18446744073709551616) (hb : b < 18446744073709551616) : Calls Tryz.prog 100 #[.int .u64 (a : Int), .int .u64 (b : Int)] w (Same (.int .u64 (a ^^^ b : Nat)) w) := by
  go_enter Tryz.func100, Tryz.ntmps100
  go_wp2
  go_ret
  refine ⟨ret_int ?_, rfl⟩
  exact Mx.bits_rxor ha hb
end Go.Proofs.YtknefjigdlbacaaGreatDoor
