/-
  The walk of awake: the chapter's example, and one that nobody made. By an AI agent.
-/
import Derived.Test.YtdmmgnicbemghaaDoorGdRef
set_option linter.unusedSimpArgs false
set_option linter.unusedVariables false
namespace Go.Proofs.YtdmmgnicbemghaaDoor
open Go.RowKit Go.Maps
open Ac (A)
/-- A new block, aside of a guard's. -/
theorem Aside.new {q b : Nat} {c : Int} {s : Gd.S} {w : World} (h : Gb w q s b c) (cs : Array Value) (t : TypeId) : Aside (fun k => k = q) (w.alloc (.cells cs t)) w.heap.size (.cells cs t (0, 0)) :=
  ⟨heap_alloc_new w _, fun e => by have := h.lt; omega⟩
set_option maxRecDepth 100000 in
set_option maxHeartbeats 4000000 in
theorem awake_any (w : World) (hbd : Bd w) : Calls Tryd.prog 5 #[] w (Gives (.bool true) w) := by
  have KN : Hid (∀ W, Bd W → Calls Tryd.prog 6 #[.agg #[.int .u64 1, .int .i64 1, .int .i64 2, .int .i64 1, .int .u64 0]] W (Gnew ⟨1, 0⟩ 1 4 W)) := Lib.hid (fun W h => gnew_yes 1 1 2 1 0 W h rfl)
  have KM : Hid (∀ W, Bd W → Calls Tryd.prog 6 #[.agg #[.int .u64 0, .int .i64 0, .int .i64 0, .int .i64 0, .int .u64 0]] W (Gnew ⟨0, 0⟩ 0 0 W)) := Lib.hid (fun W h => gnew_no 0 0 0 0 0 W h rfl)
  have KA1 : Hid (∀ W q, Gb W q ⟨1, 0⟩ 1 4 → Calls Tryd.prog 8 #[.pointer (some ⟨q, 0, none⟩)] W (Gives (.tuple #[.agg #[.int .i64 1, .int .u64 1, .int .i64 0, .int .u64 0, .int .u64 0], .bool true]) W)) := Lib.hid (fun W q h => gact_any h (by simp))
  have KA2 : Hid (∀ W q, Gb W q ⟨2, 2⟩ 1 4 → Calls Tryd.prog 8 #[.pointer (some ⟨q, 0, none⟩)] W (Gives (.tuple #[.agg #[.int .i64 2, .int .u64 1, .int .i64 4, .int .u64 0, .int .u64 2], .bool true]) W)) := Lib.hid (fun W q h => gact_any h (by simp))
  have KA0 : Hid (∀ W q, Gb W q ⟨0, 0⟩ 0 0 → Calls Tryd.prog 8 #[.pointer (some ⟨q, 0, none⟩)] W (Gives (.tuple #[.agg #[.int .i64 0, .int .u64 0, .int .i64 0, .int .u64 0, .int .u64 0], .bool false]) W)) := Lib.hid (fun W q h => gact_any h (by simp))
  have KT1 : Hid (∀ W q, Gb W q ⟨1, 0⟩ 1 4 → Calls Tryd.prog 9 #[.pointer (some ⟨q, 0, none⟩), .int .u64 2] W fun e w' => e = .returned (.tuple #[]) ∧ Gb w' q ⟨2, 2⟩ 1 4 ∧ Chg q W w') := Lib.hid (fun W q h => gtake_any h (by simp) 2)
  have KT2 : Hid (∀ W q, Gb W q ⟨2, 2⟩ 1 4 → Calls Tryd.prog 9 #[.pointer (some ⟨q, 0, none⟩), .int .u64 0] W fun e w' => e = .returned (.tuple #[]) ∧ Gb w' q ⟨3, 2⟩ 1 4 ∧ Chg q W w') := Lib.hid (fun W q h => gtake_any h (by simp) 0)
  have KT3 : Hid (∀ W q, Gb W q ⟨3, 2⟩ 1 4 → Calls Tryd.prog 9 #[.pointer (some ⟨q, 0, none⟩), .int .u64 2] W fun e w' => e = .returned (.tuple #[]) ∧ Gb w' q ⟨4, 2⟩ 1 4 ∧ Chg q W w') := Lib.hid (fun W q h => gtake_any h (by simp) 2)
  have KR : Hid (∀ W q, Gb W q ⟨4, 2⟩ 1 4 → Calls Tryd.prog 10 #[.pointer (some ⟨q, 0, none⟩)] W (Same (.tuple #[.int .u64 2, .bool true]) W)) := Lib.hid (fun W q h => gres_any h)
  have KZ : Hid (∀ W, Calls Tryd.prog 9 #[.pointer none, .int .u64 1] W (Same (.tuple #[]) W)) := Lib.hid (fun W => gtake_nil 1 W)
  have KY := Lib.hid gres_nil
  have HBD := Lib.hid hbd
  clear hbd
  go_enter Tryd.func5, Tryd.ntmps5
  have K0 := Lib.hid (KN.out w HBD.out)
  go_wp2_with fail
  with_reducible refine K0.out.mono ?_
  rintro e w1 ⟨q, rfl, hq, hg, hb1⟩
  have HG1 := Lib.hid hg
  have HQ := Lib.hid hq
  have HB1 := Lib.hid hb1
  have K1 := Lib.hid (KA1.out _ _ hg)
  clear hg hq hb1 K0 KN
  go_wp2_with fail
  with_reducible refine K1.out.mono ?_
  rintro e w2 ⟨rfl, hb2⟩
  obtain ⟨W2, hW2⟩ : ∃ W2, W2 = w2.alloc (.cells #[.int .i64 1, .int .u64 1, .int .i64 0, .int .u64 0, .int .u64 0] 31) := ⟨_, rfl⟩
  have hg2 := HG1.out.below hb2
  have hA2 := Aside.new hg2 #[.int .i64 1, .int .u64 1, .int .i64 0, .int .u64 0, .int .u64 0] 31
  have hbb2 : Below w2.heap.size w2 W2 := by rw [hW2]; exact (Below.refl _ w2).alloc (Nat.le_refl _) _
  rw [← hW2] at hA2
  have HG2 := Lib.hid (hg2.below hbb2)
  have A2 := Lib.hid hA2
  have HB2 := Lib.hid (HB1.out.trans ((hb2.trans (hbb2.mono hb2.size)).mono HB1.out.size))
  have K2 := Lib.hid (KT1.out _ _ HG2.out)
  clear hg2 hA2 hbb2 hb2 K1 KA1 KT1 HG1 HB1
  go_wp2_with fail
  rw [← hW2]
  clear hW2
  generalize w2.heap.size = za at A2 ⊢
  with_reducible refine K2.out.mono ?_
  rintro e w3 ⟨rfl, hg3, ht3⟩
  have A3 := Lib.hid (A2.out.tn ht3)
  have HG3 := Lib.hid hg3
  have HB3 := Lib.hid (HB2.out.trans (ht3.below (fun k hk => by have := HQ.out; omega) HB2.out.size))
  have K3 := Lib.hid (KA2.out _ _ hg3)
  clear hg3 ht3 K2 A2 HG2 HB2 KA2
  go_wp2_with fail
  with_reducible refine K3.out.mono ?_
  rintro e w4 ⟨rfl, hb4⟩
  obtain ⟨W4, hW4⟩ : ∃ W4, W4 = w4.alloc (.cells #[.int .i64 2, .int .u64 1, .int .i64 4, .int .u64 0, .int .u64 2] 31) := ⟨_, rfl⟩
  have hg4 := HG3.out.below hb4
  have hA4 := Aside.new hg4 #[.int .i64 2, .int .u64 1, .int .i64 4, .int .u64 0, .int .u64 2] 31
  have hbb4 : Below w4.heap.size w4 W4 := by rw [hW4]; exact (Below.refl _ w4).alloc (Nat.le_refl _) _
  rw [← hW4] at hA4
  have hb34 := hb4.trans (hbb4.mono hb4.size)
  have HG4 := Lib.hid (hg4.below hbb4)
  have A4 := Lib.hid (A3.out.below hb34)
  have B4 := Lib.hid hA4
  have HB4 := Lib.hid (HB3.out.trans (hb34.mono HB3.out.size))
  have K4 := Lib.hid (KT2.out _ _ HG4.out)
  clear hg4 hA4 hbb4 hb4 hb34 K3 KT2 HG3 HB3 A3
  go_wp2_with fail
  rw [← hW4]
  clear hW4
  generalize w4.heap.size = zb at B4 ⊢
  with_reducible refine K4.out.mono ?_
  rintro e w5 ⟨rfl, hg5, ht5⟩
  have A5 := Lib.hid (A4.out.tn ht5)
  have B5 := Lib.hid (B4.out.tn ht5)
  have HB5 := Lib.hid (HB4.out.trans (ht5.below (fun k hk => by have := HQ.out; omega) HB4.out.size))
  have K5 := Lib.hid (KT3.out _ _ hg5)
  clear hg5 ht5 K4 A4 B4 HG4 HB4 KT3
  go_wp2_with fail
  with_reducible refine K5.out.mono ?_
  rintro e w6 ⟨rfl, hg6, ht6⟩
  have A6 := Lib.hid (A5.out.tn ht6)
  have B6 := Lib.hid (B5.out.tn ht6)
  have HB6 := Lib.hid (HB5.out.trans (ht6.below (fun k hk => by have := HQ.out; omega) HB5.out.size))
  have K6 := Lib.hid (KR.out _ _ hg6)
  clear hg6 ht6 K5 A5 B5 HB5 KR
  go_wp2_with fail
  with_reducible refine K6.out.mono ?_
  rintro e w7 ⟨rfl, rfl⟩
  clear K6
  go_wp2_with fail
  with_reducible refine (KZ.out _).mono ?_
  rintro e w7 ⟨rfl, rfl⟩
  go_wp2_with fail
  with_reducible refine (KY.out _).mono ?_
  rintro e w7 ⟨rfl, rfl⟩
  have K7 := Lib.hid (KM.out w6 (HBD.out.below HB6.out))
  go_wp2_with fail
  with_reducible refine K7.out.mono ?_
  rintro e w8 ⟨q8, rfl, hq8, hg8, hb8⟩
  have A8 := Lib.hid (A6.out.below hb8)
  have B8 := Lib.hid (B6.out.below hb8)
  have HB8 := Lib.hid (HB6.out.trans (hb8.mono HB6.out.size))
  have K8 := Lib.hid (KA0.out _ _ hg8)
  clear hg8 hq8 hb8 K7 KM A6 B6 HB6 KA0
  go_wp2_with fail
  with_reducible refine K8.out.mono ?_
  rintro e w9 ⟨rfl, hb9⟩
  have A9 := A8.out.below hb9
  have B9 := B8.out.below hb9
  have HB9 := Lib.hid (HB8.out.trans (hb9.mono HB8.out.size))
  have hbo : ∀ o, Below w9.heap.size w9 (w9.alloc o) := fun o => (Below.refl _ w9).alloc (Nat.le_refl _) _
  have x0 := fun o => (A9.below (hbo o)).cell 0 rfl
  have x1 := fun o => (A9.below (hbo o)).cell 1 rfl
  have x2 := fun o => (A9.below (hbo o)).cell 2 rfl
  have x3 := fun o => (A9.below (hbo o)).cell 3 rfl
  have x4 := fun o => (A9.below (hbo o)).cell 4 rfl
  have y0 := fun o => (B9.below (hbo o)).cell 0 rfl
  have y1 := fun o => (B9.below (hbo o)).cell 1 rfl
  have y2 := fun o => (B9.below (hbo o)).cell 2 rfl
  have y3 := fun o => (B9.below (hbo o)).cell 3 rfl
  have y4 := fun o => (B9.below (hbo o)).cell 4 rfl
  have HBO := Lib.hid hbo
  clear A9 B9 hb9 hbo K8 A8 B8 HB8
  have q1 := eq_act 1 1 0 0 0 1 1 0 0 0
  rw [eqB_self] at q1
  have q2 := eq_act 2 1 4 0 2 2 1 4 0 2
  rw [eqB_self] at q2
  go_wp2
  go_ret
  exact ⟨rfl, HB9.out.trans ((HBO.out _).mono HB9.out.size)⟩
end Go.Proofs.YtdmmgnicbemghaaDoor
