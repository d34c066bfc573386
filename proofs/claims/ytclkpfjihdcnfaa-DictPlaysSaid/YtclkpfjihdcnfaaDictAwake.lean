/-
  The walks of awake and of DictNone. By an AI agent.
-/
import Derived.Test.YtclkpfjihdcnfaaDictRef3
set_option linter.unusedSimpArgs false
namespace Go.Proofs.Ytclkpfjihdcnfaa
open Go.RowKit
open Dc (Pr)
abbrev sa : ByteArray := ⟨#[97]⟩
abbrev sb98 : ByteArray := ⟨#[98]⟩
abbrev s1 : ByteArray := ⟨#[49]⟩
abbrev s2 : ByteArray := ⟨#[50]⟩
abbrev s3 : ByteArray := ⟨#[51]⟩
theorem ke_ab : Dc.ke sa sb98 = false := by simp [Dc.ke, ByteArray.toList_eq]
theorem lt_ab : Dc.lt sa sb98 = true := by simp [Dc.lt, ByteArray.toList_eq, Op.bytesLess]
theorem put1 : Dc.put [] sb98 s1 = [(sb98, s1)] := rfl
theorem mid2 : Dc.Mid sa [] [(sb98, s1)] := ⟨by simp, by intro p hp; simp at hp; subst hp; exact lt_ab⟩
theorem put2 : Dc.put [(sb98, s1)] sa s2 = [(sa, s2), (sb98, s1)] := mid2.put_none s2
theorem gt2 : Dc.gt [(sb98, s1)] sa = none := mid2.gt_none
theorem mid3 : Dc.Mid sb98 [(sa, s2)] [] := ⟨by intro p hp; simp at hp; subst hp; exact lt_ab, by simp⟩
theorem put3 : Dc.put [(sa, s2), (sb98, s1)] sb98 s3 = [(sa, s2), (sb98, s3)] := mid3.put_some s1 s3
theorem gt3 : Dc.gt [(sa, s2), (sb98, s1)] sb98 = some s1 := mid3.gt_some s1
set_option maxRecDepth 100000 in
set_option maxHeartbeats 2000000 in
theorem awake_any (w : World) : Calls Try.prog 6 #[] w (Gives (.bool true) w) := by
  have P1 : Hid (∀ B p v w1, Mp B w1 p v [] → Calls Try.prog 9 #[.pointer (some ⟨p, 0, none⟩), .string sb98, .string s1] w1 fun e w' => e = .returned (.tuple #[.string ⟨#[]⟩, .bool false]) ∧ ∃ v', Mp B w' p v' [(sb98, s1)] ∧ Sp p v v' w1 w') :=
    Lib.hid fun B p v w1 h => put_any B p v [] sb98 s1 w1 h (by simp)
  have P2 : Hid (∀ B p v w1, Mp B w1 p v [(sb98, s1)] → Calls Try.prog 9 #[.pointer (some ⟨p, 0, none⟩), .string sa, .string s2] w1 fun e w' => e = .returned (.tuple #[.string ⟨#[]⟩, .bool false]) ∧ ∃ v', Mp B w' p v' [(sa, s2), (sb98, s1)] ∧ Sp p v v' w1 w') :=
    Lib.hid fun B p v w1 h => by have := put_any B p v [(sb98, s1)] sa s2 w1 h (by simp); rw [put2, gt2] at this; exact this
  have P3 : Hid (∀ B p v w1, Mp B w1 p v [(sa, s2), (sb98, s1)] → Calls Try.prog 9 #[.pointer (some ⟨p, 0, none⟩), .string sb98, .string s3] w1 fun e w' => e = .returned (.tuple #[.string s1, .bool true]) ∧ ∃ v', Mp B w' p v' [(sa, s2), (sb98, s3)] ∧ Sp p v v' w1 w') :=
    Lib.hid fun B p v w1 h => by have := put_any B p v [(sa, s2), (sb98, s1)] sb98 s3 w1 h (by simp); rw [put3, gt3] at this; exact this
  have HL : Hid (∀ B p v w1, Mp B w1 p v [(sa, s2), (sb98, s3)] → Calls Try.prog 14 #[.pointer (some ⟨p, 0, none⟩)] w1 (Same (.int .i64 2) w1)) := Lib.hid fun B p v w1 h => len_any B p v _ w1 h
  have HA : Hid (∀ B p v w1, Mp B w1 p v [(sa, s2), (sb98, s3)] → Calls Try.prog 16 #[.pointer (some ⟨p, 0, none⟩), .int .i64 9] w1 (Tells [(sa, s2), (sb98, s3)] w1)) := Lib.hid fun B p v w1 h => lall_any B p v _ 9 w1 h (by simp)
  go_enter Try.func6, Try.ntmps6
  go_wp2_with fail
  with_reducible refine (new_any _).mono ?_
  rintro e w0 ⟨rfl, rfl⟩
  have m0 := Mp.new w
  have hB0 : Below w.heap.size w (w.alloc (.cells #[.bool true, .slice none 0 0] 45)) := (Below.refl _ w).alloc (Nat.le_refl _) _
  generalize w.alloc (.cells #[.bool true, .slice none 0 0] 45) = w0 at m0 hB0 ⊢
  have M0 := Lib.hid m0; clear m0
  have HB0 := Lib.hid hB0; clear hB0
  go_wp2_with fail
  with_reducible refine (P1.out _ _ _ _ M0.out).mono ?_
  rintro e w1 ⟨rfl, v1, hm1, hs1⟩
  have hB1 := HB0.out.trans (hs1.below M0.out)
  have M1 := Lib.hid hm1; clear hm1 hs1
  have HB1 := Lib.hid hB1; clear hB1
  go_wp2_with fail
  with_reducible refine (P2.out _ _ _ _ M1.out).mono ?_
  rintro e w2 ⟨rfl, v2, hm2, hs2⟩
  have hB2 := HB1.out.trans (hs2.below M1.out)
  have M2 := Lib.hid hm2; clear hm2 hs2
  have HB2 := Lib.hid hB2; clear hB2
  go_wp2_with fail
  with_reducible refine (P3.out _ _ _ _ M2.out).mono ?_
  rintro e w3 ⟨rfl, v3, hm3, hs3⟩
  have hB3 := HB2.out.trans (hs3.below M2.out)
  have M3 := Lib.hid hm3; clear hm3 hs3
  have HB3 := Lib.hid hB3; clear hB3
  clear P1 P2 P3 M0 M1 M2 HB0 HB1 HB2
  go_wp2_with fail
  with_reducible refine (HL.out _ _ _ _ M3.out).mono ?_
  rintro e w4 ⟨rfl, rfl⟩
  go_wp2_with fail
  with_reducible refine (HA.out _ _ _ _ M3.out).mono ?_
  rintro e w5 ⟨va, rfl, hrow, hB5⟩
  go_wp2_with fail
  have hr2 := World.ownsRow.alloc (Row.raw hrow) (.cells #[.string sa, .string s2, .string sb98, .string s3] 40)
  have hr3 : Row w5.heap.size 40 (w5.alloc (.cells #[.string sa, .string s2, .string sb98, .string s3] 40)) (.slice (some ⟨w5.heap.size, 0, none⟩) 2 2) [(sa, s2), (sb98, s3)] := World.ownsRow_lit (base := w5.heap.size) (e := 40) (size := 2) w5 #[.string sa, .string s2, .string sb98, .string s3] 2 (Nat.le_refl _) (by decide) (by decide)
  have hS := rsame_any _ _ _ _ _ _ hr2 hr3 (by simp)
  with_reducible refine hS.mono ?_
  rintro e w6 ⟨rfl, hB6⟩
  go_wp2
  go_ret
  have h5 := HB3.out.trans (hB5.mono HB3.out.size)
  exact ⟨rfl, h5.trans (((Below.refl _ _).alloc (Nat.le_refl _) _ |>.trans (hB6.mono (by simp))).mono h5.size)⟩
set_option maxRecDepth 100000 in
set_option maxHeartbeats 4000000 in
theorem none_law (k x : ByteArray) (w : World) : Calls Try.prog 5 #[.agg #[.string k, .string x]] w (Gives (.bool true) w) := by
  obtain ⟨w0, hw0⟩ : ∃ w0, (w.alloc (.cells #[.string k, .string x] 40)).alloc (.cells #[.bool false, .slice none 0 0] 45) = w0 := ⟨_, rfl⟩
  have HB0 : Hid (Below w.heap.size w w0) := Lib.hid (by rw [← hw0]; exact ((Below.refl _ w).alloc (Nat.le_refl _) _).alloc (by simp) _)
  have hz0 : w0.cell? ⟨w.heap.size + 1, 0, none⟩ = some (.bool false) := by rw [← hw0]; simp
  have k0 : w0.cell? ⟨w.heap.size, 0, none⟩ = some (.string k) := by rw [← hw0]; simp
  have x0 : w0.cell? ⟨w.heap.size, 1, none⟩ = some (.string x) := by rw [← hw0]; simp
  have HZ : Hid (∀ w', Below w0.heap.size w0 w' → Not (some ⟨w.heap.size + 1, 0, none⟩) w') := Lib.hid fun w' hb => (Not.zero hz0).below hb
  have HC : Hid (∀ w', Below w0.heap.size w0 w' → w'.cell? ⟨w.heap.size, 0, none⟩ = some (.string k) ∧ w'.cell? ⟨w.heap.size, 1, none⟩ = some (.string x)) := by
    have hlt : w.heap.size < w0.heap.size := by rw [← hw0]; simp; omega
    exact Lib.hid fun w' hb => ⟨(hb.cell (p := ⟨w.heap.size, 0, none⟩) hlt).trans k0, (hb.cell (p := ⟨w.heap.size, 1, none⟩) hlt).trans x0⟩
  have hb0 := Below.refl w0.heap.size w0
  clear hz0
  go_enter Try.func5, Try.ntmps5
  go_wp2_with fail
  have hc1 : Calls Try.prog 9 #[.pointer none, .string k, .string x] w0 (Gives (.tuple #[.string ⟨#[]⟩, .bool false]) w0) := put_not none k x w0 (Not.nil _)
  with_reducible refine hc1.mono ?_
  rintro e w1 ⟨rfl, hbb1⟩
  have hb1 := hb0.trans (hbb1.mono hb0.size)
  obtain ⟨k1, x1⟩ := HC.out w1 hb1
  clear hc1 hbb1 k0 x0
  go_wp2_with fail
  have hc2 : Calls Try.prog 9 #[.pointer (some ⟨w.heap.size + 1, 0, none⟩), .string k, .string x] w1 (Gives (.tuple #[.string ⟨#[]⟩, .bool false]) w1) := put_not (some ⟨w.heap.size + 1, 0, none⟩) k x w1 (HZ.out _ hb1)
  with_reducible refine hc2.mono ?_
  rintro e w2 ⟨rfl, hbb2⟩
  have hb2 := hb1.trans (hbb2.mono hb1.size)
  obtain ⟨k2, x2⟩ := HC.out w2 hb2
  clear hc2 hbb2 k1 x1
  go_wp2_with fail
  have hc3 : Calls Try.prog 13 #[.pointer none, .string k] w2 (Gives (.tuple #[.string ⟨#[]⟩, .bool false]) w2) := get_not none k w2 (Not.nil _)
  with_reducible refine hc3.mono ?_
  rintro e w3 ⟨rfl, hbb3⟩
  have hb3 := hb2.trans (hbb3.mono hb2.size)
  obtain ⟨k3, x3⟩ := HC.out w3 hb3
  clear hc3 hbb3 k2 x2
  go_wp2_with fail
  have hc4 : Calls Try.prog 13 #[.pointer (some ⟨w.heap.size + 1, 0, none⟩), .string k] w3 (Gives (.tuple #[.string ⟨#[]⟩, .bool false]) w3) := get_not (some ⟨w.heap.size + 1, 0, none⟩) k w3 (HZ.out _ hb3)
  with_reducible refine hc4.mono ?_
  rintro e w4 ⟨rfl, hbb4⟩
  have hb4 := hb3.trans (hbb4.mono hb3.size)
  obtain ⟨k4, x4⟩ := HC.out w4 hb4
  clear hc4 hbb4 k3 x3
  go_wp2_with fail
  have hc5 : Calls Try.prog 11 #[.pointer none, .string k] w4 (Gives (.tuple #[.string ⟨#[]⟩, .bool false]) w4) := del_not none k w4 (Not.nil _)
  with_reducible refine hc5.mono ?_
  rintro e w5 ⟨rfl, hbb5⟩
  have hb5 := hb4.trans (hbb5.mono hb4.size)
  obtain ⟨k5, x5⟩ := HC.out w5 hb5
  clear hc5 hbb5 k4 x4
  go_wp2_with fail
  have hL1 := len_not none w5 (Not.nil _)
  with_reducible refine hL1.mono ?_
  rintro e w6 ⟨rfl, rfl⟩
  clear hL1
  go_wp2_with fail
  have hL2 := len_not (some ⟨w.heap.size + 1, 0, none⟩) w5 (HZ.out _ hb5)
  with_reducible refine hL2.mono ?_
  rintro e w6 ⟨rfl, rfl⟩
  clear hL2
  go_wp2_with fail
  have hA1 : Calls Try.prog 16 #[.pointer none, .int .i64 3] w5 (Tells [] w5) := lall_not none 3 w5 (Not.nil _)
  with_reducible refine hA1.mono ?_
  rintro e w6 ⟨v6, rfl, hr6, hbb6⟩
  obtain ⟨a6, c6, rfl⟩ := hr6.lens
  have hb6 := hb5.trans (hbb6.mono hb5.size)
  clear hA1 hr6 hbb6
  go_wp2_with fail
  have hA2 : Calls Try.prog 16 #[.pointer (some ⟨w.heap.size + 1, 0, none⟩), .int .i64 3] w6 (Tells [] w6) := lall_not (some ⟨w.heap.size + 1, 0, none⟩) 3 w6 (HZ.out _ hb6)
  with_reducible refine hA2.mono ?_
  rintro e w7 ⟨v7, rfl, hr7, hbb7⟩
  obtain ⟨a7, c7, rfl⟩ := hr7.lens
  have hb7 := hb6.trans (hbb7.mono hb6.size)
  clear hA2 hr7 hbb7
  go_wp2_with fail
  have hC := copy_not none w7 (Not.nil _)
  with_reducible refine hC.mono ?_
  rintro e w8 ⟨rfl, rfl⟩
  clear hC
  go_wp2_with fail
  with_reducible refine (awake_any w7).mono ?_
  rintro e w9 ⟨rfl, hbb9⟩
  have hb9 := hb7.trans (hbb9.mono hb7.size)
  go_wp2
  go_ret
  exact ⟨rfl, HB0.out.trans (hb9.mono HB0.out.size)⟩
end Go.Proofs.Ytclkpfjihdcnfaa
