/-
  The walks of a tape's Load, and of the document's Crowd on a tape. By an AI agent.
-/
import Derived.Test.YtknefjigdlbacaaGreatDoorCwBase
import Derived.Test.YtknefjigdlbacaaGreatDoorSkKAO
import Derived.Test.YtknefjigdlbacaaGreatDoorSkKAT
set_option linter.unusedSimpArgs false
set_option linter.unusedVariables false
namespace Go.Proofs.YtknefjigdlbacaaGreatDoor
open Go.RowKit Go.Maps
open Ac (A)
def Toldc (B t k0 : Nat) (ad : Option Addr) (GS gs : List Nat) (c m : Nat) (x : A) (w : World) (e : Ending) (w' : World) : Prop :=
  e = .returned (.bool (Cw.told m gs)) ∧ Ts B w' t ad GS c (k0 + 4) x ∧ Chg t w w'
set_option maxRecDepth 100000 in
set_option maxHeartbeats 4000000 in
theorem rdcrowd_from {B : Nat} {w : World} {t c : Nat} {ad : Option Addr} {GS gs : List Nat} {X : A} (k0 d : Nat) (l : Int) (hgs : gs = GS.drop k0) (h : Ts B w t ad GS c k0 X) (hX : k0 ≤ GS.length → gs.length < 4 → X = Cw.act d (Cw.run gs)) (hm0 : GS.length ≤ 1000) :
    Calls Tryz.prog 50 #[.pointer (some ⟨t, 0, none⟩), .agg #[.int .u64 (d : Int), .int .i64 l]] w (Toldc B t k0 ad GS gs c (7 * Tb.grp l) X w) := by
  have hlen0 : gs.length = GS.length - k0 := by rw [hgs, List.length_drop]
  have hm : gs.length ≤ 1000 := by omega
  have KL : ∀ (W : World) (j : Nat), j < 4 → Ts B W t ad GS c (k0 + j) X → Calls Tryz.prog 47 #[.pointer (some ⟨t, 0, none⟩), .int .u64 (d : Int), .int .i64 ((3 + j : Nat) : Int)] W fun e w' => e = .returned (.int .u64 ((gs.getD j 0 : Nat) : Int)) ∧ Ts B w' t ad GS c (k0 + (j + 1)) X ∧ Chg t W w' := fun W j hj h => by
    rw [hgs, getD_drop]
    refine tload_any d (3 + j) h (fun e => ?_) (by omega)
    rw [hX (by omega) (by omega), Cw.act_yes (by rw [Cw.run_len_eq]; omega), Cw.run_len_eq, Nat.min_eq_right (by omega), show gs.length = j by omega]
  have KM := Lib.hid (fun W => rlimit_any l W)
  have hg := Tb.grp_le l
  have HG : Hid (IntKind.u64.wrap (7 * (Tb.grp l : Int)) = 7 * (Tb.grp l : Int)) := Lib.hid (by rw [u64_wrap]; omega)
  have HD : Hid (decide (7 * (Tb.grp l : Int) ≤ ((Cw.sum gs : Nat) : Int)) = Cw.told (7 * Tb.grp l) gs) := Lib.hid (by
    unfold Cw.told
    rw [Bool.eq_iff_iff]; simp only [decide_eq_true_eq]; omega)
  have E : Hid (IntKind.u64.wrap (IntKind.u64.wrap (IntKind.u64.wrap (IntKind.u64.wrap ((gs.getD 0 0 : Nat) : Int) + ((gs.getD 1 0 : Nat) : Int)) + ((gs.getD 2 0 : Nat) : Int)) + ((gs.getD 3 0 : Nat) : Int)) = ((Cw.sum gs : Nat) : Int)) := Lib.hid (by
    unfold Cw.sum
    rw [u64_wrap, u64_wrap, u64_wrap, u64_wrap]; omega)
  unfold Toldc
  generalize Cw.told (7 * Tb.grp l) gs = r at HD ⊢
  generalize Cw.sum gs = y at HD E
  generalize Tb.grp l = n at *
  clear hX hg hgs hlen0
  have hth0 : B ≤ t := h.tB
  have HK0 : Hid (∀ W, Ts B W t ad GS c (k0 + 0) X → Calls Tryz.prog 47 #[.pointer (some ⟨t, 0, none⟩), .int .u64 (d : Int), .int .i64 3] W fun e w' => e = .returned (.int .u64 ((gs.getD 0 0 : Nat) : Int)) ∧ Ts B w' t ad GS c (k0 + 1) X ∧ Chg t W w') := Lib.hid (fun W => KL W 0 (by omega))
  have HK1 : Hid (∀ W, Ts B W t ad GS c (k0 + 1) X → Calls Tryz.prog 47 #[.pointer (some ⟨t, 0, none⟩), .int .u64 (d : Int), .int .i64 4] W fun e w' => e = .returned (.int .u64 ((gs.getD 1 0 : Nat) : Int)) ∧ Ts B w' t ad GS c (k0 + 2) X ∧ Chg t W w') := Lib.hid (fun W => KL W 1 (by omega))
  have HK2 : Hid (∀ W, Ts B W t ad GS c (k0 + 2) X → Calls Tryz.prog 47 #[.pointer (some ⟨t, 0, none⟩), .int .u64 (d : Int), .int .i64 5] W fun e w' => e = .returned (.int .u64 ((gs.getD 2 0 : Nat) : Int)) ∧ Ts B w' t ad GS c (k0 + 3) X ∧ Chg t W w') := Lib.hid (fun W => KL W 2 (by omega))
  have HK3 : Hid (∀ W, Ts B W t ad GS c (k0 + 3) X → Calls Tryz.prog 47 #[.pointer (some ⟨t, 0, none⟩), .int .u64 (d : Int), .int .i64 6] W fun e w' => e = .returned (.int .u64 ((gs.getD 3 0 : Nat) : Int)) ∧ Ts B w' t ad GS c (k0 + 4) X ∧ Chg t W w') := Lib.hid (fun W => KL W 3 (by omega))
  clear KL
  generalize gs.getD 0 0 = a0 at *
  generalize gs.getD 1 0 = a1 at *
  generalize gs.getD 2 0 = a2 at *
  generalize gs.getD 3 0 = a3 at *
  obtain ⟨W, hW⟩ : ∃ W, W = w.alloc (.cells #[.int .u64 (d : Int), .int .i64 l] 24) := ⟨_, rfl⟩
  have hwn : W.heap[w.heap.size]? = some (.cells #[.int .u64 (d : Int), .int .i64 l] 24 (0, 0)) := by rw [hW]; exact heap_alloc_new w _
  have hbW : Below w.heap.size w W := by rw [hW]; exact (Below.refl _ w).alloc (Nat.le_refl _) _
  have HA := Lib.hid (show Aside (fun k => k = t) W w.heap.size (.cells #[.int .u64 (d : Int), .int .i64 l] 24 (0, 0)) from ⟨hwn, fun e => by have := h.own.lt; omega⟩)
  have HB := Lib.hid (show Chg t w W from Tn.of_below hbW)
  have HTS := Lib.hid (h.below hbW)
  have d0 := HA.out.cell 0 rfl
  have K0 := Lib.hid (HK0.out _ HTS.out)
  clear h hwn hbW HK0
  go_enter Tryz.func50, Tryz.ntmps50
  go_wp2
  rw [← hW]
  clear hW
  generalize w.heap.size = z at HA d0 ⊢
  refine wp_loop_rounds 5 ?_
  rw [rounds_succ]
  go_wp2_with fail
  with_reducible refine K0.out.mono ?_
  rintro e w1 ⟨rfl, h1, hc1⟩
  have H1 := Lib.hid h1
  have HA1 := Lib.hid (HA.out.tn hc1)
  have HB1 := Lib.hid (HB.out.trans hc1)
  have d0 := HA1.out.cell 0 rfl
  have K1 := Lib.hid (HK1.out _ h1)
  clear h1 hc1 K0 HA HTS HB HK1
  go_wp2
  rw [rounds_succ]
  go_wp2_with fail
  with_reducible refine K1.out.mono ?_
  rintro e w2 ⟨rfl, h2, hc2⟩
  have H2 := Lib.hid h2
  have HA2 := Lib.hid (HA1.out.tn hc2)
  have HB2 := Lib.hid (HB1.out.trans hc2)
  have d0 := HA2.out.cell 0 rfl
  have K2 := Lib.hid (HK2.out _ h2)
  clear h2 hc2 K1 HA1 H1 HB1 HK2
  go_wp2
  rw [rounds_succ]
  go_wp2_with fail
  with_reducible refine K2.out.mono ?_
  rintro e w3 ⟨rfl, h3, hc3⟩
  have H3 := Lib.hid h3
  have HA3 := Lib.hid (HA2.out.tn hc3)
  have HB3 := Lib.hid (HB2.out.trans hc3)
  have d0 := HA3.out.cell 0 rfl
  have K3 := Lib.hid (HK3.out _ h3)
  clear h3 hc3 K2 HA2 H2 HB2 HK3
  go_wp2
  rw [rounds_succ]
  go_wp2_with fail
  with_reducible refine K3.out.mono ?_
  rintro e w4 ⟨rfl, h4, hc4⟩
  have H4 := Lib.hid h4
  have HA4 := Lib.hid (HA3.out.tn hc4)
  have HB4 := Lib.hid (HB3.out.trans hc4)
  have d1 := HA4.out.cell 1 rfl
  clear h4 hc4 K3 HA3 H3 HB3 d0
  go_wp2
  rw [rounds_succ]
  go_wp2_with fail
  with_reducible refine (KM.out _).mono ?_
  rintro e w5 ⟨rfl, rfl⟩
  have E' := E.out
  have G' := HG.out
  have D' := HD.out
  go_wp2
  go_ret
  exact ⟨rfl, H4.out, HB4.out⟩
end Go.Proofs.YtknefjigdlbacaaGreatDoor
