/-
  Several texts in one: The walk of goOn: the next act is done, and taken; The walk of what Steps hands out, for whatever loop body. By an AI agent.
-/
import Derived.Test.YtknefjigdlbacaaGreatDoorSkGBF
import Derived.Test.YtknefjigdlbacaaGreatDoorSkGBB
import Derived.Deep.CutBlock
import Derived.RangeFuncNested
import Derived.RangeFuncBound
import Derived.RangeFuncCalls
import Derived.RangeFuncLeaves
import Derived.RangeFuncBox
import Derived.RangeFuncStops
import Derived.Shelf.Abstract
import Derived.Shelf.AbstractIn
import Derived.Shelf.RegionOpen
import Derived.OwnWalkIn
import Derived.TacticsInMore
import Derived.LoopNIn
import Derived.LoopIn
import Derived.OpenShut
set_option linter.unusedSimpArgs false
set_option linter.unusedVariables false
namespace Go.Proofs.YtknefjigdlbacaaGreatDoor
open Go.RowKit Go.Maps
open Mm (Mem Blk)
open Ac (A)
set_option maxRecDepth 100000 in
set_option maxHeartbeats 8000000 in
theorem goon_more (R : Rt) {B : Nat} {w : World} {p k : Nat} {S S' : Mem} {F H : Nat → Prop} (h : Du R B w p S k F H) (hB : B ≤ w.heap.size) (hk : k < R.N) (hD : DoesIt S (R.xs k) (R.vs k) S') :
    Calls Tryz.prog 65 #[.pointer (some ⟨p, 0, none⟩), R.v] w fun e w' => e = .returned (.tuple #[av (R.xs k), .int .u64 (R.vs k), .bool true]) ∧ ∃ F' H', Du R B w' p S' (k + 1) F' H' ∧ Tn (Or2 F H) (Or2 F' H') w w' := by
  have LOW := Lib.hid h.low
  have KN : Hid (∀ w1, Below w.heap.size w w1 → Calls Tryz.prog 67 #[R.v] w1 (Gives (.tuple #[av (R.xs k), .bool true]) w1)) := Lib.hid (fun w1 hb => by
    have := R.next (R.below h.ro hb) (Nat.le_of_lt hk)
    rwa [if_pos hk, decide_eq_true hk] at this)
  have KT0 : Hid (∀ w1 H1, R.St B w1 k H1 → B ≤ w1.heap.size → Calls Tryz.prog 119 #[R.v, .int .u64 (R.vs k)] w1 fun e w' => e = .returned (.tuple #[]) ∧ ∃ H', R.St B w' (k + 1) H' ∧ Tn H1 H' w1 w') := Lib.hid (fun w1 H1 h1 hB1 => R.take h1 hB1 hk)
  generalize R.xs k = x at *
  generalize R.vs k = v at *
  have HF := Lib.hid (fun (w : World) (H : Nat → Prop) (h : R.St B w k H) (j : Nat) (hj : H j) => R.foot h hj)
  clear hk
  obtain ⟨xk, xb, xc, xo, xn⟩ := x
  have HH := Lib.hid h; clear h
  have HD := Lib.hid hD; clear hD
  obtain ⟨n, hn⟩ : ∃ n, n = w.heap.size := ⟨_, rfl⟩
  have Hn := Lib.hid hn
  go_enter Tryz.func65, Tryz.ntmps65
  go_wp2_with fail
  obtain ⟨W, hW⟩ : ∃ W, W = w.alloc (.cells #[.int .i64 0, .int .u64 0, .int .i64 0, .int .u64 0, .int .u64 0] 35) := ⟨_, rfl⟩
  have hb : Below w.heap.size w W := by rw [hW]; exact (Below.refl _ w).alloc (Nat.le_refl _) _
  have k0 : W.heap[n]? = some (.cells #[.int .i64 0, .int .u64 0, .int .i64 0, .int .u64 0, .int .u64 0] 35 (0, 0)) := by rw [hW, hn]; exact World.alloc_heap_new w _
  rw [← hW, ← hn]
  clear hW hn
  with_reducible refine (KN.out W hb).mono ?_
  rintro e w1 ⟨rfl, hb1⟩
  have j0 := (hb1.block _ (Array.getElem?_eq_some_iff.1 k0).1).trans k0
  have hb1' := hb.trans (hb1.mono hb.size)
  have hltn := Nat.lt_of_lt_of_le (Array.getElem?_eq_some_iff.1 k0).1 hb1.size
  clear k0 hb hb1
  have B1 := Lib.hid hb1'; clear hb1'
  have J0 := Lib.hid j0; clear j0
  go_wp2_with fail
  obtain ⟨m1, hm1⟩ : ∃ m1, m1 = w1.heap.size := ⟨_, rfl⟩
  obtain ⟨w2, hw2⟩ : ∃ w2, w2 = w1.alloc (.cells #[.int .i64 xk, .int .u64 (xb : Int), .int .i64 xc, .int .u64 (xo : Int), .int .u64 (xn : Int)] 35) := ⟨_, rfl⟩
  have hb2 : Below w1.heap.size w1 w2 := by rw [hw2]; exact (Below.refl _ w1).alloc (Nat.le_refl _) _
  have i1 : w2.heap[m1]? = some (.cells #[.int .i64 xk, .int .u64 (xb : Int), .int .i64 xc, .int .u64 (xo : Int), .int .u64 (xn : Int)] 35 (0, 0)) := by rw [hw2, hm1]; exact World.alloc_heap_new w1 _
  have i0 := (hb2.block n hltn).trans J0.out
  have hb3 := B1.out.trans (hb2.mono B1.out.size)
  rw [← hw2, ← hm1]
  have hnm : n ≠ m1 := by omega
  have hnw : w.heap.size ≤ n := by rw [Hn.out]; exact Nat.le_refl _
  have hmw : w.heap.size ≤ m1 := by rw [hm1]; exact B1.out.size
  have hw2n : n < w2.heap.size := (Array.getElem?_eq_some_iff.1 i0).1
  have hw2m : m1 < w2.heap.size := (Array.getElem?_eq_some_iff.1 i1).1
  have hd2 := HH.out.below hb3
  have KD := Lib.hid (HD.out B w2 p F hd2.ar (Nat.le_trans hB hb3.size))
  clear hm1 hw2 hb2 J0 B1 HD KN
  with_reducible refine KD.out.mono ?_
  rintro e w3 ⟨rfl, F', ha3, ht3⟩
  clear KD
  have nF : ∀ k, w.heap.size ≤ k → ¬ F k := fun k hk hF => by have := (HH.out.ar.foot hF).2; omega
  have nH : ∀ k, w.heap.size ≤ k → ¬ H k := fun k hk hF => by have := (HF.out _ _ HH.out.ro _ hF).2; omega
  have i0 := (ht3.block n hw2n (nF n hnw)).trans i0
  have i1 := (ht3.block m1 hw2m (nF m1 hmw)).trans i1
  obtain ⟨hr3, hap3⟩ := ht3.ro hd2.ro hd2.apart (fun k e => (hd2.ar.foot e).1) hd2.low
  have hF3 : ∀ k, F' k → F k ∨ w2.heap.size ≤ k := ht3.foot
  have hB3 : B ≤ w3.heap.size := Nat.le_trans hB (Nat.le_trans hb3.size ht3.size)
  have t03 : Tn (Or2 F H) (Or2 F' H) w w3 := (Tn.of_below hb3).trans ht3.left
  have KT := Lib.hid (KT0.out w3 _ hr3 hB3)
  have T03 := Lib.hid t03
  have A3 := Lib.hid ha3
  have S3 := Lib.hid ht3.size
  have AP := Lib.hid hap3
  have F3 := Lib.hid hF3
  have I0 := Lib.hid i0
  have I1 := Lib.hid i1
  clear i0 i1 hap3 hF3 hB3 t03 ha3 ht3 hr3 hd2 hb3 KT0
  go_wp2_with fail
  with_reducible refine KT.out.mono ?_
  rintro e w4 ⟨rfl, H', hr4, ht4⟩
  clear KT
  have hs3 := S3.out
  have i0 := (ht4.block n (by omega) (nH n hnw)).trans I0.out
  have i1 := (ht4.block m1 (by omega) (nH m1 hmw)).trans I1.out
  have t04 := T03.out.trans ht4.right
  obtain ⟨ha4, hap4⟩ := ht4.other A3.out (fun k hk hh => AP.out k hh hk)
  have nK : ¬ Or2 F' H' n := fun e => by
    rcases e with e | e
    · rcases F3.out n e with e | e
      · exact nF n hnw e
      · omega
    · rcases ht4.foot n e with e | e
      · exact nH n hnw e
      · omega
  have D4 : Hid (Du R B w4 p S' (k + 1) F' H') := Lib.hid ⟨ha4, hr4, fun k hk hf => hap4 k hf hk, LOW.out⟩
  have T4 := Lib.hid t04
  have NK := Lib.hid nK
  have c0 : w4.cell? ⟨m1, 0, none⟩ = some (.int .i64 xk) := by simp [World.cell?, i1]
  have c1 : w4.cell? ⟨m1, 1, none⟩ = some (.int .u64 (xb : Int)) := by simp [World.cell?, i1]
  have c2 : w4.cell? ⟨m1, 2, none⟩ = some (.int .i64 xc) := by simp [World.cell?, i1]
  have c3 : w4.cell? ⟨m1, 3, none⟩ = some (.int .u64 (xo : Int)) := by simp [World.cell?, i1]
  have c4 : w4.cell? ⟨m1, 4, none⟩ = some (.int .u64 (xn : Int)) := by simp [World.cell?, i1]
  have d0 : w4.cell? ⟨n, 0, none⟩ = some (.int .i64 0) := by simp [World.cell?, i0]
  have d1 : w4.cell? ⟨n, 1, none⟩ = some (.int .u64 0) := by simp [World.cell?, i0]
  have d2 : w4.cell? ⟨n, 2, none⟩ = some (.int .i64 0) := by simp [World.cell?, i0]
  have d3 : w4.cell? ⟨n, 3, none⟩ = some (.int .u64 0) := by simp [World.cell?, i0]
  have d4 : w4.cell? ⟨n, 4, none⟩ = some (.int .u64 0) := by simp [World.cell?, i0]
  have f0 : w4.frozen? ⟨n, 0, none⟩ = false := by simp [World.frozen?, i0]
  have f1 : w4.frozen? ⟨n, 1, none⟩ = false := by simp [World.frozen?, i0]
  have f2 : w4.frozen? ⟨n, 2, none⟩ = false := by simp [World.frozen?, i0]
  have f3 : w4.frozen? ⟨n, 3, none⟩ = false := by simp [World.frozen?, i0]
  have f4 : w4.frozen? ⟨n, 4, none⟩ = false := by simp [World.frozen?, i0]
  clear i0 i1 nK t04 ha4 hap4 hr4 ht4 I0 I1 nF nH F3 AP S3 A3 T03
  go_wp2
  have hbn : Below w.heap.size w4 (((((w4.setCell ⟨n, 0, none⟩ (.int .i64 xk)).setCell ⟨n, 1, none⟩ (.int .u64 (xb : Int))).setCell ⟨n, 2, none⟩ (.int .i64 xc)).setCell ⟨n, 3, none⟩ (.int .u64 (xo : Int))).setCell ⟨n, 4, none⟩ (.int .u64 (xn : Int))) :=
    (((((Below.refl w.heap.size w4).setCell (p := ⟨n, 0, none⟩) (by simp only; omega) _).setCell (p := ⟨n, 1, none⟩) (by simp only; omega) _).setCell (p := ⟨n, 2, none⟩) (by simp only; omega) _).setCell (p := ⟨n, 3, none⟩) (by simp only; omega) _).setCell (p := ⟨n, 4, none⟩) (by simp only; omega) _
  have hkn : ∀ k, k ≠ n → (((((w4.setCell ⟨n, 0, none⟩ (.int .i64 xk)).setCell ⟨n, 1, none⟩ (.int .u64 (xb : Int))).setCell ⟨n, 2, none⟩ (.int .i64 xc)).setCell ⟨n, 3, none⟩ (.int .u64 (xo : Int))).setCell ⟨n, 4, none⟩ (.int .u64 (xn : Int))).heap[k]? = w4.heap[k]? := fun k hk => by
    rw [Below.heap_setCell _ _ _ _ hk, Below.heap_setCell _ _ _ _ hk, Below.heap_setCell _ _ _ _ hk, Below.heap_setCell _ _ _ _ hk, Below.heap_setCell _ _ _ _ hk]
  refine bodyPost_ret (v := .tuple #[av ⟨xk, xb, xc, xo, xn⟩, .int .u64 v, .bool true]) (by simp [results, Tryz.results65, go_sem, d0, d1, d2, d3, d4]) rfl ⟨rfl, F', H', ⟨D4.out.ar.keep fun k hk => hkn k (fun e => NK.out (.inl (e ▸ hk))), R.keep D4.out.ro (fun k hk => hkn k (fun e => NK.out (.inr (e ▸ hk)))) (fun e => e.block (hkn _ (by have := D4.out.low; omega))), D4.out.apart, D4.out.low⟩, T4.out.then_below hbn⟩
set_option maxRecDepth 100000 in
set_option maxHeartbeats 8000000 in
theorem goon_none (pv rr : Value) (w : World) (KN : ∀ w1, Below w.heap.size w w1 → Calls Tryz.prog 67 #[rr] w1 (Gives (.tuple #[av ⟨0, 0, 0, 0, 0⟩, .bool false]) w1)) :
    Calls Tryz.prog 65 #[pv, rr] w (Gives (.tuple #[av ⟨0, 0, 0, 0, 0⟩, .int .u64 0, .bool false]) w) := by
  have HK := Lib.hid KN; clear KN
  obtain ⟨n, hn⟩ : ∃ n, n = w.heap.size := ⟨_, rfl⟩
  go_enter Tryz.func65, Tryz.ntmps65
  go_wp2_with fail
  obtain ⟨W, hW⟩ : ∃ W, W = w.alloc (.cells #[.int .i64 0, .int .u64 0, .int .i64 0, .int .u64 0, .int .u64 0] 35) := ⟨_, rfl⟩
  have hb : Below w.heap.size w W := by rw [hW]; exact (Below.refl _ w).alloc (Nat.le_refl _) _
  have k0 : W.heap[n]? = some (.cells #[.int .i64 0, .int .u64 0, .int .i64 0, .int .u64 0, .int .u64 0] 35 (0, 0)) := by rw [hW, hn]; exact World.alloc_heap_new w _
  have Hn := Lib.hid hn
  rw [← hW, ← hn]
  clear hW hn
  with_reducible refine (HK.out W hb).mono ?_
  rintro e w1 ⟨rfl, hb1⟩
  have j0 := (hb1.block _ (Array.getElem?_eq_some_iff.1 k0).1).trans k0
  have hlt := (Array.getElem?_eq_some_iff.1 j0).1
  have hbx : Below w1.heap.size w1 (w1.alloc (.cells #[.int .i64 0, .int .u64 0, .int .i64 0, .int .u64 0, .int .u64 0] 35)) := (Below.refl _ _).alloc (Nat.le_refl _) _
  have HB := Lib.hid ((hb.trans (hb1.mono hb.size)).trans (hbx.mono (hb.trans (hb1.mono hb.size)).size))
  have i0 := (hbx.block n hlt).trans j0
  clear k0 hb hb1 j0 hbx
  have d0 : (w1.alloc (.cells #[.int .i64 0, .int .u64 0, .int .i64 0, .int .u64 0, .int .u64 0] 35)).cell? ⟨n, 0, none⟩ = some (.int .i64 0) := by simp only [World.cell?, i0]; simp
  have d1 : (w1.alloc (.cells #[.int .i64 0, .int .u64 0, .int .i64 0, .int .u64 0, .int .u64 0] 35)).cell? ⟨n, 1, none⟩ = some (.int .u64 0) := by simp only [World.cell?, i0]; simp
  have d2 : (w1.alloc (.cells #[.int .i64 0, .int .u64 0, .int .i64 0, .int .u64 0, .int .u64 0] 35)).cell? ⟨n, 2, none⟩ = some (.int .i64 0) := by simp only [World.cell?, i0]; simp
  have d3 : (w1.alloc (.cells #[.int .i64 0, .int .u64 0, .int .i64 0, .int .u64 0, .int .u64 0] 35)).cell? ⟨n, 3, none⟩ = some (.int .u64 0) := by simp only [World.cell?, i0]; simp
  have d4 : (w1.alloc (.cells #[.int .i64 0, .int .u64 0, .int .i64 0, .int .u64 0, .int .u64 0] 35)).cell? ⟨n, 4, none⟩ = some (.int .u64 0) := by simp only [World.cell?, i0]; simp
  have f0 : (w1.alloc (.cells #[.int .i64 0, .int .u64 0, .int .i64 0, .int .u64 0, .int .u64 0] 35)).frozen? ⟨n, 0, none⟩ = false := by simp only [World.frozen?, i0]; simp
  have f1 : (w1.alloc (.cells #[.int .i64 0, .int .u64 0, .int .i64 0, .int .u64 0, .int .u64 0] 35)).frozen? ⟨n, 1, none⟩ = false := by simp only [World.frozen?, i0]; simp
  have f2 : (w1.alloc (.cells #[.int .i64 0, .int .u64 0, .int .i64 0, .int .u64 0, .int .u64 0] 35)).frozen? ⟨n, 2, none⟩ = false := by simp only [World.frozen?, i0]; simp
  have f3 : (w1.alloc (.cells #[.int .i64 0, .int .u64 0, .int .i64 0, .int .u64 0, .int .u64 0] 35)).frozen? ⟨n, 3, none⟩ = false := by simp only [World.frozen?, i0]; simp
  have f4 : (w1.alloc (.cells #[.int .i64 0, .int .u64 0, .int .i64 0, .int .u64 0, .int .u64 0] 35)).frozen? ⟨n, 4, none⟩ = false := by simp only [World.frozen?, i0]; simp
  clear i0 hlt
  go_wp2
  generalize w1.alloc (.cells #[.int .i64 0, .int .u64 0, .int .i64 0, .int .u64 0, .int .u64 0] 35) = W9 at *
  have hnw : w.heap.size ≤ n := by rw [Hn.out]; exact Nat.le_refl _
  exact bodyPost_ret (v := .tuple #[av ⟨0, 0, 0, 0, 0⟩, .int .u64 0, .bool false]) (by simp [results, Tryz.results65, go_sem, d0, d1, d2, d3, d4]) rfl ⟨rfl, ((((HB.out.setCell (p := ⟨n, 0, none⟩) (by simp only; omega) _).setCell (p := ⟨n, 1, none⟩) (by simp only; omega) _).setCell (p := ⟨n, 2, none⟩) (by simp only; omega) _).setCell (p := ⟨n, 3, none⟩) (by simp only; omega) _).setCell (p := ⟨n, 4, none⟩) (by simp only; omega) _⟩
/-- No act comes any more: nothing happens. -/
theorem goon_end (R : Rt) {B : Nat} {w : World} {k : Nat} {H : Nat → Prop} (pv : Value) (h : R.St B w k H) (hm : k = R.N) :
    Calls Tryz.prog 65 #[pv, R.v] w (Gives (.tuple #[av ⟨0, 0, 0, 0, 0⟩, .int .u64 0, .bool false]) w) :=
  goon_none pv R.v w fun w1 hb => by
    have := R.next (R.below h hb) (Nat.le_of_eq hm)
    rwa [if_neg (by omega), decide_eq_false (by omega)] at this
/-- Whether an act comes. -/
theorem next_any (R : Rt) {B : Nat} {w : World} {k : Nat} {H : Nat → Prop} (h : R.St B w k H) (hk : k ≤ R.N) :
    ∃ x, Calls Tryz.prog 67 #[R.v] w (Gives (.tuple #[av x, .bool (decide (k < R.N))]) w) := ⟨_, R.next h hk⟩
end Go.Proofs.YtknefjigdlbacaaGreatDoor
set_option linter.unusedSimpArgs false
set_option linter.unusedVariables false
namespace Go.Proofs.YtknefjigdlbacaaGreatDoor
open Go.RowKit Go.Shelf Go.Maps
open Mm (Mem Blk)
open Ac (A)
attribute [local go_sem] Oper.semAt_some
set_option maxRecDepth 100000 in
set_option maxHeartbeats 4000000 in
theorem steps1_in (n y b1 b2 : Nat) (hn : 3 ≤ n) (pv rr : Value) (M : Nat) (xs : Nat → A) (vs : Nat → Int) (J J' Jx : Nat → World → Prop) (Jd : World → Prop) (mu : World → Nat)
    (hmu : ∀ k W, J k W → k ≤ M ∧ mu W = M - k)
    (hG : ∀ k W, J k W → W.cell? ⟨b1, 0, none⟩ = some pv ∧ W.cell? ⟨b2, 0, none⟩ = some rr ∧
      ((k < M ∧ Calls Tryz.prog 65 #[pv, rr] W fun e W2 => e = .returned (.tuple #[av (xs k), .int .u64 (vs k), .bool true]) ∧ J' k (boxed W2 (xs k))) ∨
       (k = M ∧ Calls Tryz.prog 65 #[pv, rr] W fun e W2 => e = .returned (.tuple #[av ⟨0, 0, 0, 0, 0⟩, .int .u64 0, .bool false]) ∧ Jd (W2.alloc (.cells #[.int .i64 0, .int .u64 0, .int .i64 0, .int .u64 0, .int .u64 0] 35)))))
    (hY : ∀ k W, J' k W → k < M → YieldAt Fence.wide (n - 1) Tryz.prog y #[av (xs k), .int .u64 (vs k)] W fun e W' => (e = .returned (.bool true) ∧ J (k + 1) W') ∨ (e = .returned (.bool false) ∧ Jx (k + 1) W'))
    (W : World) (h0 : J 0 W) :
    CallsIn Fence.wide n Tryz.prog 120 #[.func (.yield y) #[] #[], .pointer (some ⟨b1, 0, none⟩), .pointer (some ⟨b2, 0, none⟩)] W fun e W' => (∃ v, e = .returned v) ∧ (Jd W' ∨ ∃ k, Jx k W') := by
  have hf6 : Fence.wide.fn 65 := trivial
  have g1 : 1 ≤ n := by omega
  have HMU := Lib.hid hmu; clear hmu
  have HG := Lib.hid hG; clear hG
  have HY := Lib.hid hY; clear hY
  refine callsIn_of_wp Tryz.func120 rfl trivial ?_ rfl
  simp only [Tryz.ntmps120, List.size_toArray, List.length_cons, List.length_nil, Nat.reduceAdd, Nat.reduceSub, Array.replicate_succ, Array.replicate_zero, List.push_toArray, List.append_toArray, List.nil_append, List.cons_append]
  gi_wp2_with fail
  gi_loopw [4, 5, 6] (fun _ _ _ wr => ∃ k : Nat, J k wr) (fun _ _ _ wr => mu wr)
  case atStart => exact ⟨0, h0⟩
  case round =>
    obtain ⟨k, hj⟩ := hrel
    obtain ⟨hkM, hmuk⟩ := HMU.out k wr hj
    obtain ⟨c1, c2, hg⟩ := HG.out k wr hj
    rcases hg with ⟨hlt, hg⟩ | ⟨rfl, hg⟩
    · have KG := Lib.hid hg; clear hg
      gi_wp2_with (gi_at_call 65; refine (callsIn_wide.2 KG.out).mono ?_; rintro e W2 ⟨rfl, hj2⟩; obtain ⟨fn, tmps, assign, body, hy, hR0⟩ := HY.out k _ hj2 hlt)
      refine hR0.mono ?_
      rintro e W3 (⟨rfl, hj3⟩ | ⟨rfl, hx3⟩)
      · obtain ⟨hk3, hm3⟩ := HMU.out _ _ hj3
        gi_wp2
        go_roundw
        case rel => exact ⟨k + 1, hj3⟩
        case measure => rw [hmuk, hm3]; omega
      · gi_wp2
        refine bodyPost_ret (results_none rfl _ _ _) rfl ?_
        exact ⟨⟨_, rfl⟩, .inr ⟨k + 1, hx3⟩⟩
    · have KG := Lib.hid hg; clear hg
      gi_wp2_with (gi_at_call 65; refine (callsIn_wide.2 KG.out).mono ?_; rintro e W2 ⟨rfl, hj2⟩)
      refine ⟨(fun f e => nomatch e), ?_⟩
      gi_wp2
      refine bodyPost_ret (results_none rfl _ _ _) rfl ?_
      exact ⟨⟨_, rfl⟩, .inl hj2⟩
set_option maxHeartbeats 1000000 in
/-- Steps: the arena and the routine are boxed; the function value holds the boxes. -/
theorem steps_call (n : Nat) (pv rr : Value) (hp : pv.oneCell' = true) (hr : rr.oneCell' = true) (w : World) :
    CallsIn Fence.wide n Tryz.prog 66 #[pv, rr] w fun e w' => e = .returned (.func (.func 120) #[] #[.pointer (some ⟨w.heap.size, 0, none⟩), .pointer (some ⟨w.heap.size + 1, 0, none⟩)]) ∧ (w.alloc (.cells #[pv] 52)).alloc (.cells #[rr] 63) = w' := by
  refine callsIn_of_wp Tryz.func66 rfl trivial ?_ rfl
  simp only [Tryz.ntmps66, List.size_toArray, List.length_cons, List.length_nil, Nat.reduceAdd, Nat.reduceSub, Array.replicate_succ, Array.replicate_zero, List.push_toArray, List.append_toArray, List.nil_append, List.cons_append]
  gi_wp2
  go_ret
  exact ⟨rfl, rfl⟩
end Go.Proofs.YtknefjigdlbacaaGreatDoor
