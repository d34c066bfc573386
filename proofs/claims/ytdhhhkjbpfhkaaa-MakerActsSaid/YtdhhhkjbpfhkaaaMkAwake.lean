/-
  The walk of awake: the chapter's example. By an AI agent.
-/
import Derived.Test.YtdhhhkjbpfhkaaaMkRun
set_option linter.unusedSimpArgs false
set_option linter.unusedVariables false
namespace Go.Proofs.Ytdhhhkjbpfhkaaa
open Go.RowKit Go.Maps
open Mm (Mem Blk)
open Ac (A)
theorem Mst.mono {B C : Nat} {w : World} {q g c j b : Nat} {l : List Nat} (h : Mst B w q l g c j b) (hC : C ≤ B) : Mst C w q l g c j b := ⟨Nat.le_trans hC h.qB, Nat.le_trans hC h.gB, h.ne, h.own, h.ltg, h.wds⟩
theorem bx_ex : Kr.bx [97] [98, 99] = [513, 97, 25442] := by decide
/-- A new arena. -/
def Anew (n : Nat) (w : World) (e : Ending) (w' : World) : Prop := e = .returned (.pointer (some ⟨w.heap.size + 1, 0, none⟩)) ∧ ∃ F, Ax w.heap.size w' (w.heap.size + 1) ⟨n, 0, 0, []⟩ F ∧ Below w.heap.size w w' ∧ w.heap.size + 2 = w'.heap.size
/-- Result of who has none. -/
theorem kres_no {n b : Nat} (hb : b = 0 ∨ b ≠ 0) : kres n (cnt n b) b = .tuple #[.int .u64 b, .bool true] := by
  unfold kres
  rw [← more_cnt, decide_eq_false (Nat.lt_irrefl _), if_neg (by decide)]
set_option maxRecDepth 100000 in
set_option maxHeartbeats 4000000 in
theorem awake_any (w : World) : Calls Try.prog 5 #[] w (Gives (.bool true) w) := by
  have KN : Hid (Calls Try.prog 11 #[.int .i64 9] w (Anew 9 w)) := Lib.hid (new_ok 9 (by omega) (by omega) w)
  have KM : Hid (∀ w1, Calls Try.prog 6 #[.string ⟨#[97]⟩, .string ⟨#[98, 99]⟩] w1 (Makes w1.heap.size [513, 97, 25442] w1)) := Lib.hid (fun w1 => by
    have := knew_any ⟨#[97]⟩ ⟨#[98, 99]⟩ w1 (by decide) (by decide)
    rwa [show Kr.bx (ByteArray.mk #[97]).data.toList (ByteArray.mk #[98, 99]).data.toList = _ from bx_ex] at this)
  have KT : Hid (∀ w1, Calls Try.prog 8 #[.pointer none, .int .u64 1] w1 (Gives (.tuple #[]) w1)) := Lib.hid (fun w1 => mtake_nil 1 w1)
  have KR := Lib.hid mres_nil
  have KB : Hid (∀ w1 q, Blank w1 q → Calls Try.prog 7 #[.pointer (some ⟨q, 0, none⟩)] w1 (Gives (.tuple #[av ⟨0, 0, 0, 0, 0⟩, .bool false]) w1)) := Lib.hid (fun w1 q h => blank_act h)
  go_enter Try.func5, Try.ntmps5
  go_wp2_with fail
  with_reducible refine KN.out.mono ?_
  rintro e w1 ⟨rfl, F, hA, hb1, hs1⟩
  have HA := Lib.hid hA
  have HB1 := Lib.hid hb1
  obtain ⟨p, hp⟩ : ∃ p, p = w.heap.size + 1 := ⟨_, rfl⟩
  rw [← hp] at HA ⊢
  clear hA hb1 hs1 KN hp
  go_wp2_with fail
  with_reducible refine (KM.out _).mono ?_
  rintro e w2 ⟨q, g, c, rfl, hM, hb2⟩
  have hB2 := HB1.out.trans (hb2.mono HB1.out.size)
  have hap : ¬ F q ∧ ¬ F g := ⟨fun e => by have := (HA.out.foot e).2; have := hM.qB; omega, fun e => by have := (HA.out.foot e).2; have := hM.gB; omega⟩
  have KA := Lib.hid (kalone (most := 9) (HA.out.below hb2 (Nat.le_refl _)) (hM.mono HB1.out.size) hap hB2.size (by omega) (by omega) (by simp) (by simp) (by omega))
  have HB2 := Lib.hid hB2
  clear hM hb2 hB2 hap HA HB1
  go_wp2_with fail
  with_reducible refine KA.out.mono ?_
  rintro e w3 ⟨rfl, hb3, ⟨F3, hA3⟩, g3, c3, hM3⟩
  have KS := kres_any hM3
  rw [kres_no (Nat.eq_zero_or_pos _ |>.imp id (fun h => by omega))] at KS
  have KS := Lib.hid (show Calls Try.prog 9 #[.pointer (some ⟨q, 0, none⟩)] w3 (Same (.tuple #[.int .u64 1, .bool true]) w3) from KS)
  have KL := Lib.hid (show Calls Try.prog 16 #[.pointer (some ⟨p, 0, none⟩), .int .u64 1, .int .i64 2] w3 (Same (.tuple #[.int .u64 25442, .int .i64 0]) w3) from load_ok (b := 1) (ws := [513, 97, 25442]) hA3 (by omega) rfl 2 rfl)
  have HB3 := Lib.hid (HB2.out.trans hb3)
  clear hb3 hA3 hM3 KA HB2
  have ec : ((cnt [513, 97, 25442].length (bb 9 [513, 97, 25442].length) : Nat) : Int) = 4 := rfl
  rw [ec]
  clear ec
  go_wp2_with fail
  with_reducible refine KS.out.mono ?_
  rintro e w4 ⟨rfl, rfl⟩
  go_wp2_with fail
  with_reducible refine KL.out.mono ?_
  rintro e w4 ⟨rfl, rfl⟩
  go_wp2_with fail
  with_reducible refine (KT.out _).mono ?_
  rintro e w4 ⟨rfl, hb4⟩
  have HB4 := Lib.hid (HB3.out.trans (hb4.mono HB3.out.size))
  clear hb4 HB3 KS KL
  go_wp2_with fail
  with_reducible refine (KR.out _).mono ?_
  rintro e w5 ⟨rfl, rfl⟩
  go_wp2_with fail
  obtain ⟨W, hW⟩ : ∃ W, W = w4.alloc (.cells #[.int .i64 0, .int .u64 0, .int .i64 0, .int .u64 0, .int .u64 0, .int .i64 0, .int .u64 0, .int .i64 0, .int .u64 0, .int .u64 0, .slice none 0 0, .int .u64 0] 53) := ⟨_, rfl⟩
  have hbl : Blank W w4.heap.size := by rw [hW]; exact heap_alloc_new w4 _
  have HB5 := Lib.hid (HB4.out.trans (show Below w.heap.size w4 W by rw [hW]; exact ((Below.refl _ w4).alloc (Nat.le_refl _) _).mono HB4.out.size))
  rw [← hW]
  clear hW HB4
  with_reducible refine (KB.out _ _ hbl).mono ?_
  rintro e w6 ⟨rfl, hb6⟩
  have HB6 := Lib.hid (HB5.out.trans (hb6.mono HB5.out.size))
  clear hb6 HB5 hbl
  go_wp2
  go_ret
  exact ⟨rfl, HB6.out.trans (((Below.refl _ w6).alloc (Nat.le_refl _) _).mono HB6.out.size)⟩
end Go.Proofs.Ytdhhhkjbpfhkaaa
