/-
  The walk of awake: the chapter's example, and one that nobody made. By an AI agent.
-/
import Derived.Test.YtdbolhalgbiggaaCwRef
import Derived.Test.YtdbolhalgbiggaaCwNote
set_option linter.unusedSimpArgs false
set_option linter.unusedVariables false
namespace Go.Proofs.Ytdbolhalgbiggaa
open Go.RowKit Go.Maps
open Ac (A)
/-- A new block, aside of a crowd's. -/
theorem Aside.new {q d : Nat} {l : Int} {s : List Nat} {w : World} (h : Cb w q d l s) (cs : Array Value) (t : TypeId) : Aside (fun k => k = q) (w.alloc (.cells cs t)) w.heap.size (.cells cs t (0, 0)) :=
  ⟨heap_alloc_new w _, fun e => by have := h.lt; omega⟩
theorem grp_zero : Tb.grp 0 = 1 := by decide
set_option maxRecDepth 100000 in
set_option maxHeartbeats 4000000 in
theorem awake_any (w : World) : Calls Try.prog 5 #[] w (Gives (.bool true) w) := by
  have hr : Tb.right ((4 : Nat) : Int) (Tb.grp 0) = true := by rw [grp_zero]; rfl
  have hn : Tb.right ((0 : Nat) : Int) (Tb.grp 0) = false := by rw [grp_zero]; rfl
  have KN : Hid (∀ W, Calls Try.prog 6 #[.agg #[.int .u64 4, .int .i64 0]] W (Cnew 4 0 W)) := Lib.hid (fun W => cnew_any 4 0 W)
  have KM : Hid (∀ W, Calls Try.prog 6 #[.agg #[.int .u64 0, .int .i64 0]] W (Cnew 0 0 W)) := Lib.hid (fun W => cnew_any 0 0 W)
  have KA : Hid (∀ W q, Cb W q 4 0 [] → Calls Try.prog 10 #[.pointer (some ⟨q, 0, none⟩)] W (Gives (.tuple #[.agg #[.int .i64 1, .int .u64 4, .int .i64 3, .int .u64 0, .int .u64 0], .bool true]) W)) := Lib.hid (fun W q h => cact_any h hr (by simp))
  have KA0 : Hid (∀ W q, Cb W q 0 0 [] → Calls Try.prog 10 #[.pointer (some ⟨q, 0, none⟩)] W (Gives (.tuple #[.agg #[.int .i64 0, .int .u64 0, .int .i64 0, .int .u64 0, .int .u64 0], .bool false]) W)) := Lib.hid (fun W q h => cact_not h hn)
  have KT0 : Hid (∀ W q, Cb W q 4 0 [] → Calls Try.prog 11 #[.pointer (some ⟨q, 0, none⟩), .int .u64 1] W (Ctook q 4 0 [1] W)) := Lib.hid (fun W q h => ctake_any h hr (by simp) 1)
  have KT1 : Hid (∀ W q, Cb W q 4 0 [1] → Calls Try.prog 11 #[.pointer (some ⟨q, 0, none⟩), .int .u64 2] W (Ctook q 4 0 [1, 2] W)) := Lib.hid (fun W q h => ctake_any h hr (by simp) 2)
  have KT2 : Hid (∀ W q, Cb W q 4 0 [1, 2] → Calls Try.prog 11 #[.pointer (some ⟨q, 0, none⟩), .int .u64 3] W (Ctook q 4 0 [1, 2, 3] W)) := Lib.hid (fun W q h => ctake_any h hr (by simp) 3)
  have KT3 : Hid (∀ W q, Cb W q 4 0 [1, 2, 3] → Calls Try.prog 11 #[.pointer (some ⟨q, 0, none⟩), .int .u64 4] W (Ctook q 4 0 [1, 2, 3, 4] W)) := Lib.hid (fun W q h => ctake_any h hr (by simp) 4)
  have KR : Hid (∀ W q, Cb W q 4 0 [1, 2, 3, 4] → Calls Try.prog 12 #[.pointer (some ⟨q, 0, none⟩)] W (Gives (.tuple #[.bool true, .bool true]) W)) := Lib.hid (fun W q h => by
    have := cres_any h hr (by simp)
    rw [grp_zero] at this
    exact this)
  have KZ : Hid (∀ W, Calls Try.prog 11 #[.pointer none, .int .u64 1] W (Same (.tuple #[]) W)) := Lib.hid (fun W => ctake_nil 1 W)
  have KY := Lib.hid cres_nil
  have KO : Hid (∀ W, Calls Try.prog 7 #[.agg #[.int .u64 4, .int .i64 0], .int .i64 5] W (Gives (.agg #[.int .i64 4, .int .u64 4, .int .i64 4, .int .u64 0, .int .u64 1]) W)) := Lib.hid (fun W => cnote_any 4 0 5 W)
  clear hr hn
  go_enter Try.func5, Try.ntmps5
  have K0 := Lib.hid (KN.out w)
  go_wp2_with fail
  with_reducible refine K0.out.mono ?_
  rintro e w1 ⟨q, rfl, hq, hg, hb1⟩
  have HG1 := Lib.hid hg
  have HQ := Lib.hid hq
  have HB1 := Lib.hid hb1
  have K1 := Lib.hid (KA.out _ _ hg)
  clear hg hq hb1 K0 KN
  go_wp2_with fail
  with_reducible refine K1.out.mono ?_
  rintro e w2 ⟨rfl, hb2⟩
  obtain ⟨W2, hW2⟩ : ∃ W2, W2 = w2.alloc (.cells #[.int .i64 1, .int .u64 4, .int .i64 3, .int .u64 0, .int .u64 0] 30) := ⟨_, rfl⟩
  have hg2 := HG1.out.below hb2
  have hA2 := Aside.new hg2 #[.int .i64 1, .int .u64 4, .int .i64 3, .int .u64 0, .int .u64 0] 30
  have hbb2 : Below w2.heap.size w2 W2 := by rw [hW2]; exact (Below.refl _ w2).alloc (Nat.le_refl _) _
  rw [← hW2] at hA2
  have HG2 := Lib.hid (hg2.below hbb2)
  have A2 := Lib.hid hA2
  have HB2 := Lib.hid (HB1.out.trans ((hb2.trans (hbb2.mono hb2.size)).mono HB1.out.size))
  have K2 := Lib.hid (KT0.out _ _ HG2.out)
  clear hg2 hA2 hbb2 hb2 K1 KA HG1 HB1
  go_wp2
  rw [← hW2]
  clear hW2
  generalize w2.heap.size = za at A2 ⊢
  refine wp_loop_rounds 5 ?_
  rw [rounds_succ]
  go_wp2_with fail
  with_reducible refine K2.out.mono ?_
  rintro e w3 ⟨rfl, hg3, ht3⟩
  have A3 := Lib.hid (A2.out.tn ht3)
  have HG3 := Lib.hid hg3
  have HB3 := Lib.hid (HB2.out.trans (ht3.below (fun k hk => by have := HQ.out; omega) HB2.out.size))
  have K3 := Lib.hid (KT1.out _ _ hg3)
  clear hg3 ht3 K2 A2 HG2 HB2 KT0
  go_wp2
  rw [rounds_succ]
  go_wp2_with fail
  with_reducible refine K3.out.mono ?_
  rintro e w4 ⟨rfl, hg4, ht4⟩
  have A4 := Lib.hid (A3.out.tn ht4)
  have HG4 := Lib.hid hg4
  have HB4 := Lib.hid (HB3.out.trans (ht4.below (fun k hk => by have := HQ.out; omega) HB3.out.size))
  have K4 := Lib.hid (KT2.out _ _ hg4)
  clear hg4 ht4 K3 A3 HG3 HB3 KT1
  go_wp2
  rw [rounds_succ]
  go_wp2_with fail
  with_reducible refine K4.out.mono ?_
  rintro e w5 ⟨rfl, hg5, ht5⟩
  have A5 := Lib.hid (A4.out.tn ht5)
  have HG5 := Lib.hid hg5
  have HB5 := Lib.hid (HB4.out.trans (ht5.below (fun k hk => by have := HQ.out; omega) HB4.out.size))
  have K5 := Lib.hid (KT3.out _ _ hg5)
  clear hg5 ht5 K4 A4 HG4 HB4 KT2
  go_wp2
  rw [rounds_succ]
  go_wp2_with fail
  with_reducible refine K5.out.mono ?_
  rintro e w6 ⟨rfl, hg6, ht6⟩
  have A6 := Lib.hid (A5.out.tn ht6)
  have HG6 := Lib.hid hg6
  have HB6 := Lib.hid (HB5.out.trans (ht6.below (fun k hk => by have := HQ.out; omega) HB5.out.size))
  have K6 := Lib.hid (KR.out _ _ hg6)
  clear hg6 ht6 K5 A5 HG5 HB5 KT3
  go_wp2
  rw [rounds_succ]
  go_wp2_with fail
  with_reducible refine K6.out.mono ?_
  rintro e w7 ⟨rfl, hb7⟩
  have A7 := Lib.hid (A6.out.below hb7)
  have HB7 := Lib.hid (HB6.out.trans (hb7.mono HB6.out.size))
  clear K6 hb7 A6 HG6 HB6
  go_wp2_with fail
  with_reducible refine (KZ.out _).mono ?_
  rintro e w8 ⟨rfl, rfl⟩
  go_wp2_with fail
  with_reducible refine (KY.out _).mono ?_
  rintro e w8 ⟨rfl, rfl⟩
  have K7 := Lib.hid (KM.out w7)
  go_wp2_with fail
  with_reducible refine K7.out.mono ?_
  rintro e w8 ⟨q8, rfl, hq8, hg8, hb8⟩
  have A8 := Lib.hid (A7.out.below hb8)
  have HB8 := Lib.hid (HB7.out.trans (hb8.mono HB7.out.size))
  have K8 := Lib.hid (KA0.out _ _ hg8)
  clear hg8 hq8 hb8 K7 KM A7 HB7 KA0
  go_wp2_with fail
  with_reducible refine K8.out.mono ?_
  rintro e w9 ⟨rfl, hb9⟩
  have A9 := A8.out.below hb9
  have HB9 := Lib.hid (HB8.out.trans (hb9.mono HB8.out.size))
  have hbo : ∀ o, Below w9.heap.size w9 (w9.alloc o) := fun o => (Below.refl _ w9).alloc (Nat.le_refl _) _
  have x0 := fun o => (A9.below (hbo o)).cell 0 rfl
  have x1 := fun o => (A9.below (hbo o)).cell 1 rfl
  have x2 := fun o => (A9.below (hbo o)).cell 2 rfl
  have x3 := fun o => (A9.below (hbo o)).cell 3 rfl
  have x4 := fun o => (A9.below (hbo o)).cell 4 rfl
  have HB10 := Lib.hid (fun o => HB9.out.trans ((hbo o).mono HB9.out.size))
  clear A9 hb9 hbo K8 A8 HB8 HB9
  have q1 := eq_act 1 4 3 0 0 1 4 3 0 0
  rw [eqB_self] at q1
  have q2 := eq_act 4 4 4 0 1 4 4 4 0 1
  rw [eqB_self] at q2
  go_wp2_with fail
  with_reducible refine (KO.out _).mono ?_
  rintro e w10 ⟨rfl, hb10⟩
  have HB11 := Lib.hid ((HB10.out _).trans (hb10.mono (HB10.out _).size))
  clear hb10 HB10 x0 x1 x2 x3 x4
  go_wp2
  go_ret
  exact ⟨rfl, HB11.out⟩
end Go.Proofs.Ytdbolhalgbiggaa
