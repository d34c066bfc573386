/-
  The walk of awake: the chapter's example, one whose word is not fresh, one that may not be, and one that nobody made. By an AI agent.
-/
import Derived.Test.YtjmgjgohllihdaaDoorShRef
import Derived.Test.YtjmgjgohllihdaaDoorShAct
import Derived.Test.YtjmgjgohllihdaaDoorShNew
set_option linter.unusedSimpArgs false
set_option linter.unusedVariables false
namespace Go.Proofs.YtjmgjgohllihdaaDoor
open Go.RowKit Go.Maps
open Ac (A)
/-- A new block, aside of a shield's. -/
theorem Aside.new {q d b : Nat} {c i : Int} {s : Sh.S} {w : World} (h : Sb w q s d c b i) (cs : Array Value) (t : TypeId) : Aside (fun k => k = q) (w.alloc (.cells cs t)) w.heap.size (.cells cs t (0, 0)) :=
  ⟨heap_alloc_new w _, fun e => by have := h.lt; omega⟩
/-- A block that stood there ahead of a shield's. -/
theorem Aside.made {F : Nat → Prop} {w : World} {z q : Nat} {o : Obj} (h : Aside F w z o) (hq : z < q) : Aside (fun k => k = q) w z o := ⟨h.at', fun e => by omega⟩
theorem old_box : Dk.box 0 = 3 := by decide
theorem new25 : Sh.new 25 = ⟨1, 25⟩ := Sh.new_yes (by decide)
theorem new28 : Sh.new 28 = ⟨3, 28⟩ := Sh.new_no (by decide)
theorem step26 : Sh.step ⟨2, 25⟩ 26 = ⟨3, 26⟩ := Sh.step2_same (by decide)
set_option maxRecDepth 100000 in
set_option maxHeartbeats 4000000 in
theorem awake_any (w : World) (hbd : Bd w) : Calls Tryd.prog 5 #[] w (Gives (.bool true) w) := by
  have KN : Hid (∀ W, Bd W → Calls Tryd.prog 6 #[.agg #[.int .u64 1, .int .i64 0, .int .i64 1, .int .i64 1, .int .u64 0], .int .u64 2, .int .i64 8, .int .u64 25] W (Snew ⟨1, 25⟩ 1 3 2 8 W)) := Lib.hid (fun W h => by have := snew_yes 1 0 1 1 0 2 8 25 W h rfl (by omega) (by omega); rwa [old_box, new25] at this)
  have KO : Hid (∀ W, Bd W → Calls Tryd.prog 6 #[.agg #[.int .u64 1, .int .i64 0, .int .i64 1, .int .i64 1, .int .u64 0], .int .u64 2, .int .i64 8, .int .u64 28] W (Snew ⟨3, 28⟩ 1 3 2 8 W)) := Lib.hid (fun W h => by have := snew_yes 1 0 1 1 0 2 8 28 W h rfl (by omega) (by omega); rwa [old_box, new28] at this)
  have KM : Hid (∀ W, Bd W → Calls Tryd.prog 6 #[.agg #[.int .u64 1, .int .i64 0, .int .i64 1, .int .i64 1, .int .u64 0], .int .u64 2, .int .i64 (-1), .int .u64 25] W (Snew ⟨0, 0⟩ 0 0 0 0 W)) := Lib.hid (fun W h => snew_no 1 0 1 1 0 2 (-1) 25 W h (.inr (by omega)))
  have KA1 : Hid (∀ W q, Sb W q ⟨1, 25⟩ 1 3 2 8 → Calls Tryd.prog 8 #[.pointer (some ⟨q, 0, none⟩)] W (Gives (.tuple #[.agg #[.int .i64 2, .int .u64 1, .int .i64 3, .int .u64 0, .int .u64 3], .bool true]) W)) := Lib.hid (fun W q h => sact_any h (by simp) (by simp))
  have KA2 : Hid (∀ W q, Sb W q ⟨2, 25⟩ 1 3 2 8 → Calls Tryd.prog 8 #[.pointer (some ⟨q, 0, none⟩)] W (Gives (.tuple #[.agg #[.int .i64 1, .int .u64 2, .int .i64 8, .int .u64 0, .int .u64 0], .bool true]) W)) := Lib.hid (fun W q h => sact_any h (by simp) (by simp))
  have KA0 : Hid (∀ W q, Sb W q ⟨0, 0⟩ 0 0 0 0 → Calls Tryd.prog 8 #[.pointer (some ⟨q, 0, none⟩)] W (Gives (.tuple #[.agg #[.int .i64 0, .int .u64 0, .int .i64 0, .int .u64 0, .int .u64 0], .bool false]) W)) := Lib.hid (fun W q h => sact_any h (by simp) (by simp))
  have KT1 : Hid (∀ W q, Sb W q ⟨1, 25⟩ 1 3 2 8 → Calls Tryd.prog 9 #[.pointer (some ⟨q, 0, none⟩), .int .u64 0] W fun e w' => e = .returned (.tuple #[]) ∧ Sb w' q ⟨2, 25⟩ 1 3 2 8 ∧ Chg q W w') := Lib.hid (fun W q h => stake_any h (by simp) (by simp) 0 (by simp))
  have KT2 : Hid (∀ W q, Sb W q ⟨2, 25⟩ 1 3 2 8 → Calls Tryd.prog 9 #[.pointer (some ⟨q, 0, none⟩), .int .u64 26] W fun e w' => e = .returned (.tuple #[]) ∧ Sb w' q ⟨3, 26⟩ 1 3 2 8 ∧ Chg q W w') := Lib.hid (fun W q h => by have := stake_any h (by simp) (by simp) 26 (by simp); rwa [step26] at this)
  have KR : Hid (∀ W q, Sb W q ⟨3, 26⟩ 1 3 2 8 → Calls Tryd.prog 10 #[.pointer (some ⟨q, 0, none⟩)] W (Same (.tuple #[.int .u64 26, .bool true]) W)) := Lib.hid (fun W q h => sres_any h)
  have KR2 : Hid (∀ W q, Sb W q ⟨3, 28⟩ 1 3 2 8 → Calls Tryd.prog 10 #[.pointer (some ⟨q, 0, none⟩)] W (Same (.tuple #[.int .u64 28, .bool true]) W)) := Lib.hid (fun W q h => sres_any h)
  have KZ : Hid (∀ W, Calls Tryd.prog 9 #[.pointer none, .int .u64 1] W (Same (.tuple #[]) W)) := Lib.hid (fun W => stake_nil 1 W)
  have KY := Lib.hid sres_nil
  have HBD := Lib.hid hbd
  clear hbd
  obtain ⟨W0, hW0⟩ : ∃ W0, W0 = w.alloc (.cells #[.int .u64 1, .int .i64 0, .int .i64 1, .int .i64 1, .int .u64 0] 24) := ⟨_, rfl⟩
  have HB0 := Lib.hid (show Below w.heap.size w W0 by rw [hW0]; exact (Below.refl _ w).alloc (Nat.le_refl _) _)
  have HI0 := Lib.hid (show Aside (fun _ => False) W0 w.heap.size (.cells #[.int .u64 1, .int .i64 0, .int .i64 1, .int .i64 1, .int .u64 0] 24 (0, 0)) by rw [hW0]; exact ⟨heap_alloc_new w _, fun e => e⟩)
  have K0 := Lib.hid (KN.out W0 (HBD.out.below HB0.out))
  have c0 := HI0.out.cell 0 rfl
  have c1 := HI0.out.cell 1 rfl
  have c2 := HI0.out.cell 2 rfl
  have c3 := HI0.out.cell 3 rfl
  have c4 := HI0.out.cell 4 rfl
  go_enter Tryd.func5, Tryd.ntmps5
  go_wp2_with fail
  rw [← hW0]
  clear hW0
  obtain ⟨z, hz⟩ : ∃ z, z = w.heap.size := ⟨_, rfl⟩
  have HZ := Lib.hid hz
  rw [← hz] at c0 c1 c2 c3 c4 HI0 ⊢
  clear hz
  with_reducible refine K0.out.mono ?_
  rintro e w1 ⟨q, rfl, hq, hg, hb1⟩
  have HG1 := Lib.hid hg
  have HQ := Lib.hid (show z < q from Nat.lt_of_lt_of_le HI0.out.lt hq)
  have HB1 := Lib.hid (HB0.out.trans (hb1.mono HB0.out.size))
  have S1 := Lib.hid ((HI0.out.below hb1).made HQ.out)
  have K1 := Lib.hid (KA1.out _ _ hg)
  clear hg hq hb1 K0 KN c0 c1 c2 c3 c4 HI0
  go_wp2_with fail
  with_reducible refine K1.out.mono ?_
  rintro e w2 ⟨rfl, hb2⟩
  obtain ⟨W2, hW2⟩ : ∃ W2, W2 = w2.alloc (.cells #[.int .i64 2, .int .u64 1, .int .i64 3, .int .u64 0, .int .u64 3] 32) := ⟨_, rfl⟩
  have hg2 := HG1.out.below hb2
  have hA2 := Aside.new hg2 #[.int .i64 2, .int .u64 1, .int .i64 3, .int .u64 0, .int .u64 3] 32
  have hbb2 : Below w2.heap.size w2 W2 := by rw [hW2]; exact (Below.refl _ w2).alloc (Nat.le_refl _) _
  rw [← hW2] at hA2
  have HG2 := Lib.hid (hg2.below hbb2)
  have A2 := Lib.hid hA2
  have S2 := Lib.hid ((S1.out.below hb2).below hbb2)
  have HB2 := Lib.hid (HB1.out.trans ((hb2.trans (hbb2.mono hb2.size)).mono HB1.out.size))
  have K2 := Lib.hid (KT1.out _ _ HG2.out)
  clear hg2 hA2 hbb2 hb2 K1 KA1 KT1 HG1 HB1 S1
  go_wp2_with fail
  rw [← hW2]
  clear hW2
  generalize w2.heap.size = za at A2 ⊢
  with_reducible refine K2.out.mono ?_
  rintro e w3 ⟨rfl, hg3, ht3⟩
  have A3 := Lib.hid (A2.out.tn ht3)
  have S3 := Lib.hid (S2.out.tn ht3)
  have HG3 := Lib.hid hg3
  have HB3 := Lib.hid (HB2.out.trans (ht3.below (fun k hk => by have := HQ.out; have := HZ.out; omega) HB2.out.size))
  have K3 := Lib.hid (KA2.out _ _ hg3)
  clear hg3 ht3 K2 A2 HG2 HB2 KA2 S2
  go_wp2_with fail
  with_reducible refine K3.out.mono ?_
  rintro e w4 ⟨rfl, hb4⟩
  obtain ⟨W4, hW4⟩ : ∃ W4, W4 = w4.alloc (.cells #[.int .i64 1, .int .u64 2, .int .i64 8, .int .u64 0, .int .u64 0] 32) := ⟨_, rfl⟩
  have hg4 := HG3.out.below hb4
  have hA4 := Aside.new hg4 #[.int .i64 1, .int .u64 2, .int .i64 8, .int .u64 0, .int .u64 0] 32
  have hbb4 : Below w4.heap.size w4 W4 := by rw [hW4]; exact (Below.refl _ w4).alloc (Nat.le_refl _) _
  rw [← hW4] at hA4
  have hb34 := hb4.trans (hbb4.mono hb4.size)
  have HG4 := Lib.hid (hg4.below hbb4)
  have A4 := Lib.hid (A3.out.below hb34)
  have S4 := Lib.hid (S3.out.below hb34)
  have B4 := Lib.hid hA4
  have HB4 := Lib.hid (HB3.out.trans (hb34.mono HB3.out.size))
  have K4 := Lib.hid (KT2.out _ _ HG4.out)
  clear hg4 hA4 hbb4 hb4 hb34 K3 KT2 HG3 HB3 A3 S3
  go_wp2_with fail
  rw [← hW4]
  clear hW4
  generalize w4.heap.size = zb at B4 ⊢
  with_reducible refine K4.out.mono ?_
  rintro e w5 ⟨rfl, hg5, ht5⟩
  have A5 := Lib.hid (A4.out.tn ht5)
  have S5 := Lib.hid (S4.out.tn ht5)
  have B5 := Lib.hid (B4.out.tn ht5)
  have HB5 := Lib.hid (HB4.out.trans (ht5.below (fun k hk => by have := HQ.out; have := HZ.out; omega) HB4.out.size))
  have K6 := Lib.hid (KR.out _ _ hg5)
  have c0 := S5.out.cell 0 rfl
  have c1 := S5.out.cell 1 rfl
  have c2 := S5.out.cell 2 rfl
  have c3 := S5.out.cell 3 rfl
  have c4 := S5.out.cell 4 rfl
  clear hg5 ht5 K4 A4 B4 HB4 KR S4
  go_wp2_with fail
  with_reducible refine K6.out.mono ?_
  rintro e w6 ⟨rfl, rfl⟩
  clear K6
  have K7 := Lib.hid (KO.out w5 (HBD.out.below HB5.out))
  go_wp2_with fail
  with_reducible refine K7.out.mono ?_
  rintro e w6 ⟨q6, rfl, hq6, hg6, hb6⟩
  have A6 := Lib.hid (A5.out.below hb6)
  have B6 := Lib.hid (B5.out.below hb6)
  have S6 := Lib.hid (S5.out.below hb6)
  have HB6 := Lib.hid (HB5.out.trans (hb6.mono HB5.out.size))
  have K8 := Lib.hid (KR2.out _ _ hg6)
  clear hq6 hg6 hb6 K7 KO KR2 A5 B5 S5 HB5 c0 c1 c2 c3 c4
  have c0 := S6.out.cell 0 rfl
  have c1 := S6.out.cell 1 rfl
  have c2 := S6.out.cell 2 rfl
  have c3 := S6.out.cell 3 rfl
  have c4 := S6.out.cell 4 rfl
  go_wp2_with fail
  with_reducible refine K8.out.mono ?_
  rintro e w7 ⟨rfl, rfl⟩
  go_wp2_with fail
  with_reducible refine (KZ.out _).mono ?_
  rintro e w7 ⟨rfl, rfl⟩
  go_wp2_with fail
  with_reducible refine (KY.out _).mono ?_
  rintro e w7 ⟨rfl, rfl⟩
  have K7 := Lib.hid (KM.out w6 (HBD.out.below HB6.out))
  go_wp2_with fail
  with_reducible refine K7.out.mono ?_
  rintro e w8 ⟨q8, rfl, hq8, hg8, hb8⟩
  have A8 := Lib.hid (A6.out.below hb8)
  have B8 := Lib.hid (B6.out.below hb8)
  have HB8 := Lib.hid (HB6.out.trans (hb8.mono HB6.out.size))
  have K8 := Lib.hid (KA0.out _ _ hg8)
  clear hg8 hq8 hb8 K7 KM A6 B6 HB6 KA0 S6 c0 c1 c2 c3 c4
  go_wp2_with fail
  with_reducible refine K8.out.mono ?_
  rintro e w9 ⟨rfl, hb9⟩
  have A9 := A8.out.below hb9
  have B9 := B8.out.below hb9
  have HB9 := Lib.hid (HB8.out.trans (hb9.mono HB8.out.size))
  have hbo : ∀ o, Below w9.heap.size w9 (w9.alloc o) := fun o => (Below.refl _ w9).alloc (Nat.le_refl _) _
  have x0 := fun o => (A9.below (hbo o)).cell 0 rfl
  have x1 := fun o => (A9.below (hbo o)).cell 1 rfl
  have x2 := fun o => (A9.below (hbo o)).cell 2 rfl
  have x3 := fun o => (A9.below (hbo o)).cell 3 rfl
  have x4 := fun o => (A9.below (hbo o)).cell 4 rfl
  have y0 := fun o => (B9.below (hbo o)).cell 0 rfl
  have y1 := fun o => (B9.below (hbo o)).cell 1 rfl
  have y2 := fun o => (B9.below (hbo o)).cell 2 rfl
  have y3 := fun o => (B9.below (hbo o)).cell 3 rfl
  have y4 := fun o => (B9.below (hbo o)).cell 4 rfl
  have HBO := Lib.hid hbo
  clear A9 B9 hb9 hbo K8 A8 B8 HB8
  have q1 := eq_act 2 1 3 0 3 2 1 3 0 3
  rw [eqB_self] at q1
  have q2 := eq_act 1 2 8 0 0 1 2 8 0 0
  rw [eqB_self] at q2
  go_wp2
  go_ret
  exact ⟨rfl, HB9.out.trans ((HBO.out _).mono HB9.out.size)⟩
end Go.Proofs.YtjmgjgohllihdaaDoor
