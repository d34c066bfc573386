/-
  The walk of awake. By an AI agent.
-/
import Derived.Test.YtigopifioijjlaaSpecRefAllows
set_option linter.unusedSimpArgs false
namespace Go.Proofs.Ytigopifioijjlaa
open Go.RowKit
open Dc (Pr Rpl)
abbrev sa : ByteArray := ⟨#[97]⟩
abbrev sb98 : ByteArray := ⟨#[98]⟩
abbrev s1 : ByteArray := ⟨#[49]⟩
abbrev s2 : ByteArray := ⟨#[50]⟩
abbrev s3 : ByteArray := ⟨#[51]⟩
theorem ke_ab : Dc.ke sa sb98 = false := by simp [Dc.ke, ByteArray.toList_eq]
theorem ke_12 : Dc.ke s1 s2 = false := by simp [Dc.ke, ByteArray.toList_eq]
theorem lt_ab : Dc.lt sa sb98 = true := by simp [Dc.lt, ByteArray.toList_eq, Op.bytesLess]
theorem midb : Dc.Mid sb98 [(sa, s1)] [] := ⟨by intro p hp; simp at hp; subst hp; exact lt_ab, by simp⟩
theorem gta : Dc.gt [(sa, s1)] sa = some s1 := Dc.gt_head (sa, s1) []
theorem gtb : Dc.gt [(sa, s1)] sb98 = none := midb.gt_none
theorem srt1 : Dc.Srt [(sa, s1)] := by simp [Dc.Srt]
theorem size1 (a : UInt8) : (⟨#[a]⟩ : ByteArray).size = 1 := rfl
theorem size0 : (⟨#[]⟩ : ByteArray).size = 0 := rfl
theorem aw1 : Dc.doR [(sa, s1)] 5 sa s3 s2 = { had := true, did := false, val := s1 } := by
  have hl : Dc.longB 5 sa s3 = false := by simp [Dc.longB, size1]
  unfold Dc.doR; rw [hl]
  simp [Dc.keyR, gta, Dc.didB, ke_12]
theorem aw2 : Dc.doR [(sa, s1)] 2 sb98 s2 ⟨#[]⟩ = { had := false, did := true, val := ⟨#[]⟩ } := by
  have hl : Dc.longB 2 sb98 s2 = false := by simp [Dc.longB, size1]
  unfold Dc.doR; rw [hl]
  simp [Dc.keyR, gtb, Dc.didB]
theorem aw3 : Dc.doM [(sa, s1)] 2 sb98 s2 ⟨#[]⟩ = [(sa, s1), (sb98, s2)] := by
  have hl : Dc.longB 2 sb98 s2 = false := by simp [Dc.longB, size1]
  unfold Dc.doM; rw [hl]
  simp [Dc.keyM, gtb, Dc.didB]
  exact midb.put_none s2
theorem aw4 : Dc.mayB [(sa, s1)] 1 sa ⟨#[]⟩ ⟨#[]⟩ { err := 10 } = true := by
  have hl : Dc.longB 1 sa ⟨#[]⟩ = false := by simp [Dc.longB, size1, size0]
  have : (Dc.doR [(sa, s1)] 1 sa ⟨#[]⟩ ⟨#[]⟩).err = 0 := by
    unfold Dc.doR; rw [hl]; simp [Dc.keyR]
  unfold Dc.mayB; rw [this, Dc.sameB_refl]; simp
theorem aw5 : Dc.rightB [(sa, s1), (sb98, s2)] = true := by simp [Dc.rightB, lt_ab]
theorem aw6 : Dc.longB 0 ⟨#[]⟩ ⟨#[]⟩ = false := by simp [Dc.longB]
theorem lst1 (w : World) : Lst (w.alloc (.cells #[.string sa, .string s1] 46)) (.slice (some ⟨w.heap.size, 0, none⟩) 1 1) [(sa, s1)] := by
  refine ⟨_, 1, rfl, .inr ⟨w.heap.size, 0, rfl, by simp, fun j hj => ?_⟩⟩
  have hj0 : j = 0 := by simp at hj; exact hj
  subst hj0
  have := heap_alloc_new w (.cells #[.string sa, .string s1] 46)
  generalize w.alloc (.cells #[.string sa, .string s1] 46) = W at this
  exact ⟨by simp [World.cell?, this], by simp [World.cell?, this]⟩
set_option maxRecDepth 100000 in
set_option maxHeartbeats 4000000 in
theorem awake_any (w : World) : Calls Try.prog 6 #[] w (Gives (.bool true) w) := by
  have HL0 := Lib.hid (lst1 w)
  have HB0 : Hid (Below w.heap.size w (w.alloc (.cells #[.string sa, .string s1] 46))) := Lib.hid ((Below.refl _ w).alloc (Nat.le_refl _) _)
  have D1 : Hid (∀ v w1, Lst w1 v [(sa, s1)] → Calls Try.prog 8 #[v, .agg #[.int .i64 5, .string sa, .string s3, .string s2]] w1 (Does (Dc.doM [(sa, s1)] 5 sa s3 s2) { had := true, did := false, val := s1 } w1)) := Lib.hid (fun v w1 h => by have := do_any v _ 5 sa s3 s2 w1 h (by simp) srt1; rw [aw1] at this; exact this)
  have D2 : Hid (∀ v w1, Lst w1 v [(sa, s1)] → Calls Try.prog 8 #[v, .agg #[.int .i64 2, .string sb98, .string s2, .string ⟨#[]⟩]] w1 (Does [(sa, s1), (sb98, s2)] { had := false, did := true, val := ⟨#[]⟩ } w1)) := Lib.hid (fun v w1 h => by have := do_any v _ 2 sb98 s2 ⟨#[]⟩ w1 h (by simp) srt1; rw [aw2, aw3] at this; exact this)
  have A1 : Hid (∀ v w1, Lst w1 v [(sa, s1)] → Calls Try.prog 16 #[v, .agg #[.int .i64 1, .string sa, .string ⟨#[]⟩, .string ⟨#[]⟩], .agg #[.int .i64 10, .bool false, .bool false, .string ⟨#[]⟩, .int .i64 0, .slice none 0 0]] w1 (May (Dc.mayM [(sa, s1)] 1 sa ⟨#[]⟩ ⟨#[]⟩ { err := 10 }) true w1)) := Lib.hid (fun v w1 h => by have := allows_any v _ 1 sa ⟨#[]⟩ ⟨#[]⟩ { err := 10 } (.slice none 0 0) w1 h (by simp) srt1 (Lst.nil _) (by simp) (by decide); rw [aw4] at this; exact this)
  have S1 : Hid (∀ u w1, Lst w1 u [] → Calls Try.prog 18 #[.agg #[.int .i64 0, .bool true, .bool false, .string s1, .int .i64 0, u], .agg #[.int .i64 0, .bool true, .bool false, .string s1, .int .i64 0, .slice none 0 0]] w1 (Gives (.bool true) w1)) := Lib.hid (fun u w1 h => by have := sm_any { had := true, did := false, val := s1 } { had := true, did := false, val := s1 } u (.slice none 0 0) w1 h (Lst.nil _) (by simp); rw [Dc.sameB_refl] at this; exact this)
  have R1 : Hid (∀ v w1, Lst w1 v [(sa, s1), (sb98, s2)] → Calls Try.prog 14 #[v] w1 (Gives (.bool true) w1)) := Lib.hid (fun v w1 h => by have := right_any v _ w1 h (by simp); rw [aw5] at this; exact this)
  have L1 : Hid (∀ w1, Calls Try.prog 12 #[.agg #[.int .i64 0, .string ⟨#[]⟩, .string ⟨#[]⟩, .string ⟨#[]⟩]] w1 (Gives (.bool false) w1)) := Lib.hid (fun w1 => by have := long_any 0 ⟨#[]⟩ ⟨#[]⟩ ⟨#[]⟩ w1; rw [aw6] at this; exact this)
  generalize Dc.doM [(sa, s1)] 5 sa s3 s2 = m1 at D1
  generalize Dc.mayM [(sa, s1)] 1 sa ⟨#[]⟩ ⟨#[]⟩ { err := 10 } = m2 at A1
  go_enter Try.func6, Try.ntmps6
  go_wp2_with fail
  with_reducible refine (D1.out _ _ HL0.out).mono ?_
  rintro e w1 ⟨v1, u1, rfl, -, hu1, hb1⟩
  have HU1 := Lib.hid hu1
  obtain ⟨ya, yc, rfl, -⟩ := hu1
  obtain ⟨W1, hW1⟩ : ∃ W1, w1.alloc (.cells #[.int .i64 0, .bool true, .bool false, .string s1, .int .i64 0, .slice ya 0 yc] 30) = W1 := ⟨_, rfl⟩
  have HN1 : Hid (RpAt W1 w1.heap.size { had := true, did := false, val := s1 } (.slice ya 0 yc)) := Lib.hid (hW1 ▸ rp_new w1 { had := true, did := false, val := s1 } _)
  have hB1 : Below w.heap.size w w1 := HB0.out.trans (hb1.mono HB0.out.size)
  have hbw : Below w1.heap.size w1 W1 := hW1 ▸ (Below.refl _ w1).alloc (Nat.le_refl _) _
  have HL1 := Lib.hid ((HL0.out.below hb1).below hbw)
  have HU2 := Lib.hid (HU1.out.below hbw)
  have HB1 := Lib.hid (hB1.trans (hbw.mono hB1.size))
  clear hb1 hB1 hbw
  go_wp2_with fail
  try rw [hW1]
  clear hW1 D1
  with_reducible refine (D2.out _ _ HL1.out).mono ?_
  rintro e w2 ⟨v2, u2, rfl, hv2, hu2, hb2⟩
  obtain ⟨va, vc, rfl, -⟩ := id hv2
  obtain ⟨za, zc, rfl, -⟩ := hu2
  obtain ⟨W2, hW2⟩ : ∃ W2, w2.alloc (.cells #[.int .i64 0, .bool false, .bool true, .string ⟨#[]⟩, .int .i64 0, .slice za 0 zc] 30) = W2 := ⟨_, rfl⟩
  have HQ2 : Hid (RpAt W2 w2.heap.size { had := false, did := true, val := ⟨#[]⟩ } (.slice za 0 zc)) := Lib.hid (hW2 ▸ rp_new w2 { had := false, did := true, val := ⟨#[]⟩ } _)
  have hB2 : Below w.heap.size w w2 := HB1.out.trans (hb2.mono HB1.out.size)
  have hbw : Below w2.heap.size w2 W2 := hW2 ▸ (Below.refl _ w2).alloc (Nat.le_refl _) _
  have hN2 := HN1.out.keep (hb2.block _ HN1.out.lt)
  have HN2 := Lib.hid (hN2.keep (hbw.block _ hN2.lt))
  have HL2 := Lib.hid ((HL1.out.below hb2).below hbw)
  have HU3 := Lib.hid ((HU2.out.below hb2).below hbw)
  have HV2 := Lib.hid (hv2.below hbw)
  have HB2 := Lib.hid (hB2.trans (hbw.mono hB2.size))
  clear hb2 hB2 hbw hN2 hv2
  go_wp2_with fail
  try rw [hW2]
  clear hW2 D2
  with_reducible refine (A1.out _ _ HL2.out).mono ?_
  rintro e w3 ⟨v3, rfl, -, hb3⟩
  have HN3 := Lib.hid (HN2.out.keep (hb3.block _ HN2.out.lt))
  have HQ3 := Lib.hid (HQ2.out.keep (hb3.block _ HQ2.out.lt))
  have HU4 : Hid (Lst w3 (.slice ya 0 yc) []) := Lib.hid (HU3.out.below hb3)
  have HV3 := Lib.hid (HV2.out.below hb3)
  have HB3 := Lib.hid (HB2.out.trans (hb3.mono HB2.out.size))
  clear hb3 A1
  obtain ⟨n0, n1, n2, n3, n4, n5⟩ := HN3.out.cells
  go_wp2_with fail
  with_reducible refine (S1.out _ _ HU4.out).mono ?_
  rintro e w4 ⟨rfl, hb4⟩
  have HQ4 := Lib.hid (HQ3.out.keep (hb4.block _ HQ3.out.lt))
  have HV4 : Hid (Lst w4 (.slice va 2 vc) [(sa, s1), (sb98, s2)]) := Lib.hid (HV3.out.below hb4)
  have HB4 := Lib.hid (HB3.out.trans (hb4.mono HB3.out.size))
  clear hb4 n0 n1 n2 n3 n4 n5
  obtain ⟨q0, q1, q2, q3, q4, q5⟩ := HQ4.out.cells
  go_wp2_with fail
  with_reducible refine (R1.out _ _ HV4.out).mono ?_
  rintro e w5 ⟨rfl, hb5⟩
  have HB5 := Lib.hid (HB4.out.trans (hb5.mono HB4.out.size))
  clear hb5 q0 q1 q2 q3 q4 q5
  go_wp2_with fail
  with_reducible refine (L1.out _).mono ?_
  rintro e w6 ⟨rfl, hb6⟩
  have HB6 := Lib.hid (HB5.out.trans (hb6.mono HB5.out.size))
  clear hb6
  go_wp2
  go_ret
  exact ⟨rfl, HB6.out⟩
end Go.Proofs.Ytigopifioijjlaa
