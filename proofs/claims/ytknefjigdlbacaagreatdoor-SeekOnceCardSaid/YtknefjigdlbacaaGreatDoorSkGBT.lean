/-
  The walk of the statements' awake: the chapter's example. By an AI agent.
-/
import Derived.Test.YtknefjigdlbacaaGreatDoorSkGBM
import Derived.Test.YtknefjigdlbacaaGreatDoorSkGBN
import Derived.Test.YtknefjigdlbacaaGreatDoorSkGBS
import Derived.BigQuiet
set_option linter.unusedSimpArgs false
set_option linter.unusedVariables false
namespace Go.Proofs.YtknefjigdlbacaaGreatDoor
open Go.RowKit Go.Maps
open Mm (Mem Blk)
open Ac (A)
/-- A block apart from an arena and from a new routine outlives an Alone. -/
theorem Aside.alone {F H F' H' : Nat → Prop} {w w' : World} {z : Nat} {o : Obj} (h : Aside F w z o) (hz : ¬ H z) (ht : Tn (Or2 F H) (Or2 F' H') w w') : Aside F' w' z o := by
  have h0 : Aside (Or2 F H) w z o := ⟨h.at', fun e => e.elim h.apart hz⟩
  have h1 := h0.tn ht
  exact ⟨h1.at', fun e => h1.apart (.inl e)⟩
theorem exSit (lay : Nat) (hl : lay < 18446744073709551616) : Sit (exC lay) := ⟨⟨by show 0 ≤ 63; omega, by show 2 < _; omega, by show 1 ≤ Tb.grp 0; decide, Mx.hsh_lt _ _, hl⟩, by show Tb.right ((2 : Nat) : Int) (Tb.grp 0) = true; decide, by show Dk.right ((1 : Nat) : Int) ((0 : Nat) : Int) 1 1 = true; decide⟩
/-- New, of the example. -/
theorem exNew (lay : Nat) (chk : Bool) (W : World) (hbd : Bd W) : Calls Tryz.prog 7 #[.agg #[.int .u64 1, .int .i64 0, .int .i64 1, .int .i64 1, .int .u64 7], .agg #[.int .u64 2, .int .i64 0], .string ⟨#[107]⟩, .int .u64 (lay : Int), .bool chk] W (Knew (exC lay) chk W) :=
  knew_yes 1 0 1 1 7 2 0 ⟨#[107]⟩ lay chk hbd 0 rfl (by decide) (by decide) (by decide) (by omega)
/-- Alone, of the example. -/
theorem exAlone {B : Nat} {w : World} {p q : Nat} {M : Mem} {F : Nat → Prop} (lay N : Nat) (chk : Bool) (hl : lay < 18446744073709551616) (hr : runb (exC lay) N (Sk.start (exC lay) chk, M) = true) (ha : Ax B w p M F) (hk : Kb w q (exC lay) (Sk.start (exC lay) chk) (.pointer none) (.pointer none) (.pointer none)) (hq : B ≤ q) (hap : ¬ F q) (hbd : Bd w) (hlow : 0 < B) (hB : B ≤ w.heap.size) (hN : N ≤ 9) (most : Int) (hm : (N : Int) ≤ most) :
    Calls Tryz.prog 17 #[.pointer (some ⟨p, 0, none⟩), rvk q, .int .i64 most] w (Sran B p q (exC lay) (cr (exC lay) (Sk.start (exC lay) chk, M) N).1 N (cr (exC lay) (Sk.start (exC lay) chk, M) N).2 F (fun k => k = q) w) := by
  obtain ⟨h1, h2⟩ := runb_all (exSit lay hl).ok N (Sk.start (exC lay) chk, M) (wf_start (exSit lay hl).ok chk) hr
  exact skalone (s := fun k => (cr (exC lay) (Sk.start (exC lay) chk, M) k).1) (Sm := fun k => (cr (exC lay) (Sk.start (exC lay) chk, M) k).2) (exSit lay hl) h1 ha (ks_start hk hq) (fun k e => by rw [show k = q from e]; exact hap) hbd hlow hB (by omega) h2 most hm
theorem sran_f {B p q N : Nat} {c : Sk.C} {sN : Sk.S} {M : Mem} {F H : Nat → Prop} {w w' : World} {e : Ending} (h : Sran B p q c sN N M F H w e w') (hp : sN.p = 0) (hk : sN.f.k ≠ 0) : ∃ H', Ks B w' q c sN H' := by
  obtain ⟨-, F', H', -, h2, -⟩ := h
  exact ⟨H', h2⟩
set_option maxRecDepth 100000 in
set_option maxHeartbeats 8000000 in
theorem awake_any (w : World) (hbd : Bd w) : Calls Tryz.prog 6 #[] w (Gives (.bool true) w) := by
  have KF : Hid (Calls Tryz.prog 14 #[.int .i64 200, .int .i64 1, .int .i64 0] w (Fielded 200 4 16 0 w)) := Lib.hid (kfield_any 200 1 0 w hbd (by omega) (by omega) (by omega) (by omega) (by omega) (by decide))
  have HBD := Lib.hid hbd
  obtain ⟨B, hB⟩ : ∃ B, B = w.heap.size := ⟨_, rfl⟩
  have HLOW := Lib.hid (show 0 < B by rw [hB]; exact hbd.lt)
  have HBE := Lib.hid hB
  clear hbd hB
  go_enter Tryz.func6, Tryz.ntmps6
  go_wp2_with fail
  with_reducible refine KF.out.mono ?_
  rintro e w1 ⟨p, F1, rfl, hp, ha1, hb1⟩
  rw [← HBE.out] at hp ha1
  have hbw : Below B w w1 := by rw [HBE.out]; exact hb1
  have hB1 : B ≤ w1.heap.size := by rw [HBE.out]; exact hb1.size
  -- the boxes of the table and of the site
  obtain ⟨W1, hW1⟩ : ∃ W1, W1 = (w1.alloc (.cells #[.int .u64 2, .int .i64 0] 24)).alloc (.cells #[.int .u64 1, .int .i64 0, .int .i64 1, .int .i64 1, .int .u64 7] 26) := ⟨_, rfl⟩
  obtain ⟨z, hz⟩ : ∃ z, z = w1.heap.size := ⟨_, rfl⟩
  have o2 : W1.heap[z]? = some (.cells #[.int .u64 2, .int .i64 0] 24 (0, 0)) := by
    rw [hW1, hz]
    exact (((Below.refl _ _).alloc (Nat.le_refl _) _).block w1.heap.size (by rw [World.size_alloc]; omega)).trans (heap_alloc_new w1 _)
  have o3 : W1.heap[z + 1]? = some (.cells #[.int .u64 1, .int .i64 0, .int .i64 1, .int .i64 1, .int .u64 7] 26 (0, 0)) := by
    rw [hW1, hz]
    have := heap_alloc_new (w1.alloc (.cells #[.int .u64 2, .int .i64 0] 24)) (.cells #[.int .u64 1, .int .i64 0, .int .i64 1, .int .i64 1, .int .u64 7] 26)
    rwa [World.size_alloc] at this
  have hbW : Below w1.heap.size w1 W1 := by rw [hW1]; exact ((Below.refl _ w1).alloc (Nat.le_refl _) _).alloc (by simp only [World.size_alloc]; omega) _
  have HA1 := Lib.hid (show Ax B W1 p exM F1 from ha1.below hbW (Nat.le_refl _))
  have HZ2 := Lib.hid (show Aside F1 W1 z _ from ⟨o2, fun e => by have := (ha1.foot e).2; omega⟩)
  have HZ3 := Lib.hid (show Aside F1 W1 (z + 1) _ from ⟨o3, fun e => by have := (ha1.foot e).2; omega⟩)
  have HB1 := Lib.hid (show Below B w W1 from hbw.trans (hbW.mono hB1))
  have HS1 := Lib.hid (show B ≤ W1.heap.size from Nat.le_trans hB1 hbW.size)
  have KX := Lib.hid (exNew 0 false W1 ((HBD.out.below hb1).below hbW))
  have KX := Lib.hid (show Calls Tryz.prog 7 #[.agg #[.int .u64 1, .int .i64 0, .int .i64 1, .int .i64 1, .int .u64 7], .agg #[.int .u64 2, .int .i64 0], .string ⟨#[107]⟩, .int .u64 0, .bool false] W1 (Knew (exC 0) false W1) from KX.out)
  have HW1 := Lib.hid hW1
  have HZ := Lib.hid hz
  have d20 := HZ2.out.cell 0 rfl
  have d21 := HZ2.out.cell 1 rfl
  have d30 := HZ3.out.cell 0 rfl
  have d31 := HZ3.out.cell 1 rfl
  have d32 := HZ3.out.cell 2 rfl
  have d33 := HZ3.out.cell 3 rfl
  have d34 := HZ3.out.cell 4 rfl
  have HBD1 := Lib.hid ((HBD.out.below hb1).below hbW)
  clear hp ha1 hb1 hbw hB1 o2 o3 hbW hW1 hz KF
  go_wp2_with fail
  rw [show (w1.alloc (.cells #[.int .u64 2, .int .i64 0] 24)).alloc (.cells #[.int .u64 1, .int .i64 0, .int .i64 1, .int .i64 1, .int .u64 7] 26) = W1 from HW1.out.symm, ← HZ.out]
  with_reducible refine KX.out.mono ?_
  rintro e w2 ⟨q, rfl, hq, hk, hb2⟩
  have HA2 := Lib.hid (HA1.out.below hb2 (Nat.le_refl _))
  have HZ22 := Lib.hid (HZ2.out.below hb2)
  have HZ32 := Lib.hid (HZ3.out.below hb2)
  have KA := exAlone 0 1 false (by omega) ex1 HA2.out hk (Nat.le_trans HS1.out hq) (fun e => by have := (HA1.out.foot e).2; omega) (HBD1.out.below hb2) HLOW.out (Nat.le_trans HS1.out hb2.size) (by omega) 9 (by omega)
  rw [ex1f.2] at KA
  have KA := Lib.hid KA
  have HB2 := Lib.hid (HB1.out.trans (hb2.mono HS1.out))
  have HQ := Lib.hid (show z + 1 < q ∧ B ≤ q from ⟨Nat.lt_of_lt_of_le HZ3.out.lt hq, Nat.le_trans HS1.out hq⟩)
  have HS2 := Lib.hid (show B ≤ w2.heap.size from Nat.le_trans HS1.out hb2.size)
  clear hq hk hb2 KX HA1 HB1 HS1 d20 d21 d30 d31 d32 d33 d34 HBD1
  go_wp2_with fail
  with_reducible refine KA.out.mono ?_
  rintro e w3 ⟨rfl, F3, H3, hA3, hK3, hbd3, hap3, ht3⟩
  have HZ23 := Lib.hid (HZ22.out.alone (by show ¬ z = q; have := HQ.out; omega) ht3)
  have HZ33 := Lib.hid (HZ32.out.alone (by show ¬ z + 1 = q; have := HQ.out; omega) ht3)
  have hb3 : Below B w2 w3 := ht3.below (fun k hk => by
    rcases hk with e | e
    · exact (HA2.out.foot e).1
    · rw [show k = q from e]; exact HQ.out.2) HS2.out
  have hk3 : 1 = 1 := rfl
  have KR := skres_any hK3 ((runb_all (exSit 0 (by omega)).ok 1 _ (wf_start (exSit 0 (by omega)).ok false) ex1).1.wf 1 (Nat.le_refl 1))
  rw [ex1f.1, show Sk.more (cr (exC 0) (Sk.start (exC 0) false, exM) 1).1 = false by kernel_rfl] at KR
  have KR := Lib.hid (show Calls Tryz.prog 11 #[.pointer (some ⟨q, 0, none⟩)] w3 (Gives (.tuple #[.agg #[.int .i64 1, .int .i64 0, .int .u64 0, .string ⟨#[]⟩], .bool true]) w3) from KR)
  have HA3 := Lib.hid hA3
  have HB3 := Lib.hid (HB2.out.trans hb3)
  have HS3 := Lib.hid (show B ≤ w3.heap.size from Nat.le_trans HS2.out hb3.size)
  clear hA3 hb3 ht3 hap3 hbd3 hK3 hk3 KA HA2 HB2 HS2 HZ22 HZ32 HQ
  go_wp2_with fail
  with_reducible refine KR.out.mono ?_
  rintro e w4 ⟨rfl, hb4⟩
  obtain ⟨W4, hW4⟩ : ∃ W4, W4 = w4.alloc (.cells #[.int .i64 1, .int .i64 0, .int .u64 0, .string ⟨#[]⟩] 40) := ⟨_, rfl⟩
  obtain ⟨y, hy⟩ : ∃ y, y = w4.heap.size := ⟨_, rfl⟩
  have hb4' : Below w3.heap.size w3 W4 := by rw [hW4]; exact hb4.alloc hb4.size _
  have HA4 := Lib.hid (HA3.out.below hb4' (Nat.le_refl _))
  have HZ24 := Lib.hid (HZ23.out.below hb4')
  have HZ34 := Lib.hid (HZ33.out.below hb4')
  have HY4 := Lib.hid (show Aside F3 W4 y (.cells #[.int .i64 1, .int .i64 0, .int .u64 0, .string ⟨#[]⟩] 40 (0, 0)) from ⟨by rw [hW4, hy]; exact heap_alloc_new w4 _, fun e => by have := (HA3.out.foot e).2; have := hb4.size; omega⟩)
  have HB4 := Lib.hid (HB3.out.trans (hb4'.mono HS3.out))
  have HS4 := Lib.hid (show B ≤ W4.heap.size from Nat.le_trans HS3.out hb4'.size)
  have HW4 := Lib.hid hW4
  clear hb4 hb4' hW4 KR HA3 HB3 HS3 HZ23 HZ33
  go_wp2
  rw [show w4.alloc (.cells #[.int .i64 1, .int .i64 0, .int .u64 0, .string ⟨#[]⟩] 40) = W4 from HW4.out.symm, ← hy]
  clear hy
  have KBX := Lib.hid (kboxed_any ⟨#[107]⟩ ⟨#[118]⟩ (HA4.out.below (Below.refl _ W4).drew (Nat.le_refl _)) HLOW.out (show B ≤ W4.drew.heap.size from HS4.out) (by decide) (by decide) (by decide) (by decide))
  have KBX := Lib.hid (show Calls Tryz.prog 15 #[.pointer (some ⟨p, 0, none⟩), .string ⟨#[107]⟩, .string ⟨#[118]⟩] W4.drew (Boxd B p exM (Kr.bx [107] [118]) F3 W4.drew) from KBX.out)
  have hcd : W4.drew.cell? ⟨z, 0, none⟩ = some (.int .u64 2) ∧ W4.drew.cell? ⟨z, 1, none⟩ = some (.int .i64 0) ∧ W4.drew.cell? ⟨z + 1, 0, none⟩ = some (.int .u64 1) ∧ W4.drew.cell? ⟨z + 1, 1, none⟩ = some (.int .i64 0) ∧ W4.drew.cell? ⟨z + 1, 2, none⟩ = some (.int .i64 1) ∧ W4.drew.cell? ⟨z + 1, 3, none⟩ = some (.int .i64 1) ∧ W4.drew.cell? ⟨z + 1, 4, none⟩ = some (.int .u64 7) := ⟨(HZ24.out.below (Below.refl _ W4).drew).cell 0 rfl, (HZ24.out.below (Below.refl _ W4).drew).cell 1 rfl, (HZ34.out.below (Below.refl _ W4).drew).cell 0 rfl, (HZ34.out.below (Below.refl _ W4).drew).cell 1 rfl, (HZ34.out.below (Below.refl _ W4).drew).cell 2 rfl, (HZ34.out.below (Below.refl _ W4).drew).cell 3 rfl, (HZ34.out.below (Below.refl _ W4).drew).cell 4 rfl⟩
  refine wp_region_held_drew (S := fun W => W.cell? ⟨z, 0, none⟩ = some (.int .u64 2) ∧ W.cell? ⟨z, 1, none⟩ = some (.int .i64 0) ∧ W.cell? ⟨z + 1, 0, none⟩ = some (.int .u64 1) ∧ W.cell? ⟨z + 1, 1, none⟩ = some (.int .i64 0) ∧ W.cell? ⟨z + 1, 2, none⟩ = some (.int .i64 1) ∧ W.cell? ⟨z + 1, 3, none⟩ = some (.int .i64 1) ∧ W.cell? ⟨z + 1, 4, none⟩ = some (.int .u64 7)) (by kernel_rfl) hcd (fun hS => ?_)
  clear hcd
  refine wpAnyH_take (i := 0) (v := .agg #[.int .u64 1, .int .i64 0, .int .i64 1, .int .i64 1, .int .u64 7]) rfl (by kernel_rfl) (by kernel_rfl) (by kernel_rfl) (fun _ _ _ h => h) (Or.inl ⟨by kernel_rfl, fun w hS => by obtain ⟨s1, s2, s3, s4, s5, s6, s7⟩ := hS; go_simp⟩) hS ?_
  refine wpAnyH_take (i := 1) (v := .agg #[.int .u64 2, .int .i64 0]) rfl (by kernel_rfl) (by kernel_rfl) (by kernel_rfl) (fun _ _ _ h => h) (Or.inl ⟨by kernel_rfl, fun w hS => by obtain ⟨s1, s2, s3, s4, s5, s6, s7⟩ := hS; go_simp⟩) hS ?_
  refine wpAnyH_take (i := 2) (v := .pointer (some ⟨p, 0, none⟩)) rfl (by kernel_rfl) (by kernel_rfl) (by kernel_rfl) (fun _ _ _ h => h) (Or.inl ⟨by kernel_rfl, fun w hS => by kernel_rfl⟩) hS ?_
  refine wpAnyH_ready (rs := [3]) (by kernel_rfl) (by simp) ?_
  refine AllReadyH.cons rfl (fun K hK => ?_) AllReadyH.nil
  go_simp
  go_at_call 15
  refine KBX.out.mono ?_
  rintro e w5 ⟨rfl, F5, hA5, ht5⟩
  have HZ25 := Lib.hid ((HZ24.out.below (Below.refl _ W4).drew).tn ht5)
  have HZ35 := Lib.hid ((HZ34.out.below (Below.refl _ W4).drew).tn ht5)
  have HY5 := Lib.hid ((HY4.out.below (Below.refl _ W4).drew).tn ht5)
  have HA5 := Lib.hid (show Ax B w5 p exM2 F5 from hA5)
  have HB5 := Lib.hid (HB4.out.drew.trans (ht5.below (fun k hk => (HA4.out.foot hk).1) HS4.out))
  have HS5 := Lib.hid (show B ≤ w5.heap.size from Nat.le_trans HS4.out ht5.size)
  have HBD5 := Lib.hid (HBD.out.below (by rw [← HBE.out]; exact HB5.out))
  clear hA5 ht5
  refine hK.out _ _ ⟨HZ25.out.cell 0 rfl, HZ25.out.cell 1 rfl, HZ35.out.cell 0 rfl, HZ35.out.cell 1 rfl, HZ35.out.cell 2 rfl, HZ35.out.cell 3 rfl, HZ35.out.cell 4 rfl⟩ (fun hS => ?_)
  clear hK K
  refine wpAnyH_ready (rs := [4]) (by kernel_rfl) (by simp) ?_
  refine AllReadyH.cons rfl (fun K hK => ?_) AllReadyH.nil
  go_simp
  go_at_call 7
  refine (show Calls Tryz.prog 7 #[.agg #[.int .u64 1, .int .i64 0, .int .i64 1, .int .i64 1, .int .u64 7], .agg #[.int .u64 2, .int .i64 0], .string ⟨#[107]⟩, .int .u64 3, .bool false] w5 (Knew (exC 3) false w5) from exNew 3 false w5 HBD5.out).mono ?_
  rintro e w6 ⟨q, rfl, hq, hk, hb6⟩
  have HZ26 := Lib.hid (HZ25.out.below hb6)
  have HZ36 := Lib.hid (HZ35.out.below hb6)
  have HY6 := Lib.hid (HY5.out.below hb6)
  have HA6 := Lib.hid (HA5.out.below hb6 (Nat.le_refl _))
  have HB6 := Lib.hid (HB5.out.trans (hb6.mono HS5.out))
  have HS6 := Lib.hid (show B ≤ w6.heap.size from Nat.le_trans HS5.out hb6.size)
  have HQ := Lib.hid (show B ≤ q ∧ z ≠ q ∧ z + 1 ≠ q ∧ y ≠ q ∧ ¬ F5 q from ⟨Nat.le_trans HS5.out hq, by have := HZ25.out.lt; omega, by have := HZ35.out.lt; omega, by have := HY5.out.lt; omega, fun e => by have := (HA5.out.foot e).2; omega⟩)
  have HK := Lib.hid hk
  have HBD6 := Lib.hid (HBD5.out.below hb6)
  clear hq hk hb6
  refine hK.out _ _ ⟨HZ26.out.cell 0 rfl, HZ26.out.cell 1 rfl, HZ36.out.cell 0 rfl, HZ36.out.cell 1 rfl, HZ36.out.cell 2 rfl, HZ36.out.cell 3 rfl, HZ36.out.cell 4 rfl⟩ (fun hS => ?_)
  clear hK K
  refine wpAnyH_take (i := 5) (v := .pointer (some ⟨q, 0, none⟩)) rfl (by kernel_rfl) (by kernel_rfl) (by kernel_rfl) (fun _ _ _ h => h) (Or.inl ⟨by kernel_rfl, fun w hS => by kernel_rfl⟩) hS ?_
  refine wpAnyH_done (by kernel_rfl) ?_ _
  have KA := exAlone 3 4 false (by omega) ex2 HA6.out HK.out HQ.out.1 (fun e => by rcases (show F5 q from e) with h; exact HQ.out.2.2.2.2 h) HBD6.out HLOW.out HS6.out (by omega) 9 (by omega)
  have KA := Lib.hid KA
  clear hS KBX HK HBD5 HBD6 HZ25 HZ35 HY5 HA5 HB5 HS5 HA4 HB4 HS4 HZ24 HZ34 HY4
  go_wp2_with fail
  with_reducible refine KA.out.mono ?_
  rintro e w7 ⟨rfl, F7, H7, hA7, hK7, hbd7, hap7, ht7⟩
  have HZ27 := Lib.hid (HZ26.out.alone (H := fun k => k = q) (by exact HQ.out.2.1) ht7)
  have HZ37 := Lib.hid (HZ36.out.alone (H := fun k => k = q) (by exact HQ.out.2.2.1) ht7)
  have HY7 := Lib.hid (HY6.out.alone (H := fun k => k = q) (by exact HQ.out.2.2.2.1) ht7)
  have hb7 : Below B w6 w7 := ht7.below (fun k hk => by
    rcases hk with e | e
    · exact (HA6.out.foot e).1
    · rw [show k = q from e]; exact HQ.out.1) HS6.out
  have KR := skres_any hK7 ((runb_all (exSit 3 (by omega)).ok 4 _ (wf_start (exSit 3 (by omega)).ok false) ex2).1.wf 4 (Nat.le_refl 4))
  rw [ex2f, show Sk.more (cr (exC 3) (Sk.start (exC 3) false, exM2) 4).1 = false by kernel_rfl] at KR
  have KR := Lib.hid (show Calls Tryz.prog 11 #[.pointer (some ⟨q, 0, none⟩)] w7 (Gives (.tuple #[.agg #[.int .i64 3, .int .i64 8, .int .u64 25, .string ⟨#[]⟩], .bool true]) w7) from KR)
  have HA7 := Lib.hid (show Ax B w7 p exM3 F7 from hA7)
  have HB7 := Lib.hid (HB6.out.trans hb7)
  have HS7 := Lib.hid (show B ≤ w7.heap.size from Nat.le_trans HS6.out hb7.size)
  clear hA7 hb7 ht7 hap7 hbd7 hK7 KA HA6 HB6 HS6 HZ26 HZ36 HY6 HQ
  go_wp2_with fail
  with_reducible refine KR.out.mono ?_
  rintro e w8 ⟨rfl, hb8⟩
  obtain ⟨W8, hW8⟩ : ∃ W8, W8 = w8.alloc (.cells #[.int .i64 3, .int .i64 8, .int .u64 25, .string ⟨#[]⟩] 40) := ⟨_, rfl⟩
  obtain ⟨x, hx⟩ : ∃ x, x = w8.heap.size := ⟨_, rfl⟩
  have hb8' : Below w7.heap.size w7 W8 := by rw [hW8]; exact hb8.alloc hb8.size _
  have HA8 := Lib.hid (HA7.out.below hb8' (Nat.le_refl _))
  have HZ28 := Lib.hid (HZ27.out.below hb8')
  have HZ38 := Lib.hid (HZ37.out.below hb8')
  have HY8 := Lib.hid (HY7.out.below hb8')
  have HX8 := Lib.hid (show Aside F7 W8 x (.cells #[.int .i64 3, .int .i64 8, .int .u64 25, .string ⟨#[]⟩] 40 (0, 0)) from ⟨by rw [hW8, hx]; exact heap_alloc_new w8 _, fun e => by have := (HA7.out.foot e).2; have := hb8.size; omega⟩)
  have HB8 := Lib.hid (HB7.out.trans (hb8'.mono HS7.out))
  have HS8 := Lib.hid (show B ≤ W8.heap.size from Nat.le_trans HS7.out hb8'.size)
  have HBD8 := Lib.hid (HBD.out.below (by rw [← HBE.out]; exact HB8.out))
  have HW8 := Lib.hid hW8
  have KZ := Lib.hid (show Calls Tryz.prog 7 #[.agg #[.int .u64 1, .int .i64 0, .int .i64 1, .int .i64 1, .int .u64 7], .agg #[.int .u64 2, .int .i64 0], .string ⟨#[107]⟩, .int .u64 0, .bool true] W8 (Knew (exC 0) true W8) from exNew 0 true W8 HBD8.out)
  have e20 : ∀ o, (w8.alloc o).cell? ⟨z, 0, none⟩ = some (.int .u64 2) := fun o => (HZ27.out.below (hb8.alloc hb8.size o)).cell 0 rfl
  have e21 : ∀ o, (w8.alloc o).cell? ⟨z, 1, none⟩ = some (.int .i64 0) := fun o => (HZ27.out.below (hb8.alloc hb8.size o)).cell 1 rfl
  have e30 : ∀ o, (w8.alloc o).cell? ⟨z + 1, 0, none⟩ = some (.int .u64 1) := fun o => (HZ37.out.below (hb8.alloc hb8.size o)).cell 0 rfl
  have e31 : ∀ o, (w8.alloc o).cell? ⟨z + 1, 1, none⟩ = some (.int .i64 0) := fun o => (HZ37.out.below (hb8.alloc hb8.size o)).cell 1 rfl
  have e32 : ∀ o, (w8.alloc o).cell? ⟨z + 1, 2, none⟩ = some (.int .i64 1) := fun o => (HZ37.out.below (hb8.alloc hb8.size o)).cell 2 rfl
  have e33 : ∀ o, (w8.alloc o).cell? ⟨z + 1, 3, none⟩ = some (.int .i64 1) := fun o => (HZ37.out.below (hb8.alloc hb8.size o)).cell 3 rfl
  have e34 : ∀ o, (w8.alloc o).cell? ⟨z + 1, 4, none⟩ = some (.int .u64 7) := fun o => (HZ37.out.below (hb8.alloc hb8.size o)).cell 4 rfl
  clear hb8 hb8' hW8 KR HA7 HB7 HS7 HZ27 HZ37 HY7
  go_wp2_with fail
  rw [show w8.alloc (.cells #[.int .i64 3, .int .i64 8, .int .u64 25, .string ⟨#[]⟩] 40) = W8 from HW8.out.symm, ← hx]
  with_reducible refine KZ.out.mono ?_
  rintro e w9 ⟨q2, rfl, hq, hk, hb9⟩
  have HZ29 := Lib.hid (HZ28.out.below hb9)
  have HY9 := Lib.hid (HY8.out.below hb9)
  have HX9 := Lib.hid (HX8.out.below hb9)
  have HA9 := Lib.hid (HA8.out.below hb9 (Nat.le_refl _))
  have HB9 := Lib.hid (HB8.out.trans (hb9.mono HS8.out))
  have HS9 := Lib.hid (show B ≤ w9.heap.size from Nat.le_trans HS8.out hb9.size)
  have HQ := Lib.hid (show B ≤ q2 ∧ y ≠ q2 ∧ x ≠ q2 from ⟨Nat.le_trans HS8.out hq, by have := HY8.out.lt; omega, by have := HX8.out.lt; omega⟩)
  have KA := exAlone 0 7 true (by omega) ex3 HA9.out hk HQ.out.1 (fun e => by have := (HA8.out.foot e).2; omega) (HBD8.out.below hb9) HLOW.out HS9.out (by omega) 20 (by omega)
  have KA := Lib.hid KA
  clear hq hk hb9 KZ HA8 HB8 HS8 HZ28 HZ38 HY8 HX8 e20 e21 e30 e31 e32 e33 e34
  go_wp2_with fail
  with_reducible refine KA.out.mono ?_
  rintro e w10 ⟨rfl, F10, H10, hA10, hK10, hbd10, hap10, ht10⟩
  have HY10 := Lib.hid (HY9.out.alone (H := fun k => k = q2) (by exact HQ.out.2.1) ht10)
  have HX10 := Lib.hid (HX9.out.alone (H := fun k => k = q2) (by exact HQ.out.2.2) ht10)
  have hb10 : Below B w9 w10 := ht10.below (fun k hk => by
    rcases hk with e | e
    · exact (HA9.out.foot e).1
    · rw [show k = q2 from e]; exact HQ.out.1) HS9.out
  have KR := skres_any hK10 ((runb_all (exSit 0 (by omega)).ok 7 _ (wf_start (exSit 0 (by omega)).ok true) ex3).1.wf 7 (Nat.le_refl 7))
  rw [ex3f, show Sk.more (cr (exC 0) (Sk.start (exC 0) true, exM3) 7).1 = false by kernel_rfl] at KR
  have KR := Lib.hid (show Calls Tryz.prog 11 #[.pointer (some ⟨q2, 0, none⟩)] w10 (Gives (.tuple #[.agg #[.int .i64 2, .int .i64 8, .int .u64 25, .string ⟨#[118]⟩], .bool true]) w10) from KR)
  have HB10 := Lib.hid (HB9.out.trans hb10)
  have HS10 := Lib.hid (show B ≤ w10.heap.size from Nat.le_trans HS9.out hb10.size)
  clear hA10 hb10 ht10 hap10 hbd10 hK10 KA HA9 HB9 HS9 HZ29 HY9 HX9 HQ
  go_wp2_with fail
  with_reducible refine KR.out.mono ?_
  rintro e w11 ⟨rfl, hb11⟩
  obtain ⟨W11, hW11⟩ : ∃ W11, W11 = w11.alloc (.cells #[.int .i64 2, .int .i64 8, .int .u64 25, .string ⟨#[118]⟩] 40) := ⟨_, rfl⟩
  obtain ⟨v, hv⟩ : ∃ v, v = w11.heap.size := ⟨_, rfl⟩
  have hb11' : Below w10.heap.size w10 W11 := by rw [hW11]; exact hb11.alloc hb11.size _
  have hy11 := HY10.out.below hb11'
  have hx11 := HX10.out.below hb11'
  have HV11 := Lib.hid (show W11.heap[v]? = some (.cells #[.int .i64 2, .int .i64 8, .int .u64 25, .string ⟨#[118]⟩] 40 (0, 0)) by rw [hW11, hv]; exact heap_alloc_new w11 _)
  have HY11 := Lib.hid hy11
  have HX11 := Lib.hid hx11
  have HB11 := Lib.hid (HB10.out.trans (hb11'.mono HS10.out))
  have HW11 := Lib.hid hW11
  have KT := Lib.hid (fun V => ktake_nil 1 V)
  have KN := Lib.hid (fun V => kres_nil V)
  clear hb11 hb11' hW11 KR HB10 HY10 HX10 hy11 hx11
  go_wp2_with fail
  rw [show w11.alloc (.cells #[.int .i64 2, .int .i64 8, .int .u64 25, .string ⟨#[118]⟩] 40) = W11 from HW11.out.symm, ← hv]
  with_reducible refine (KT.out _).mono ?_
  rintro e w12 ⟨rfl, rfl⟩
  go_wp2_with fail
  with_reducible refine (KN.out _).mono ?_
  rintro e w13 ⟨rfl, hb13⟩
  have HV13 : Hid (∀ o, (w13.alloc o).heap[v]? = some (.cells #[.int .i64 2, .int .i64 8, .int .u64 25, .string ⟨#[118]⟩] 40 (0, 0))) := Lib.hid (fun o => ((hb13.alloc hb13.size o).block v (Array.getElem?_eq_some_iff.1 HV11.out).1).trans HV11.out)
  have HY13 : Hid (∀ o, (w13.alloc o).heap[y]? = some (.cells #[.int .i64 1, .int .i64 0, .int .u64 0, .string ⟨#[]⟩] 40 (0, 0))) := Lib.hid (fun o => (HY11.out.below (hb13.alloc hb13.size o)).at')
  have HX13 : Hid (∀ o, (w13.alloc o).heap[x]? = some (.cells #[.int .i64 3, .int .i64 8, .int .u64 25, .string ⟨#[]⟩] 40 (0, 0))) := Lib.hid (fun o => (HX11.out.below (hb13.alloc hb13.size o)).at')
  have HB13 : Hid (∀ o, Below B w (w13.alloc o)) := Lib.hid (fun o => HB11.out.trans ((hb13.alloc hb13.size o).mono (by have := HS10.out; have := HX11.out.lt; have := HB11.out.size; have := HBE.out; omega)))
  have y0 : ∀ o, (w13.alloc o).cell? ⟨y, 0, none⟩ = some (.int .i64 1) := fun o => by simp [World.cell?, HY13.out o]
  have y1 : ∀ o, (w13.alloc o).cell? ⟨y, 1, none⟩ = some (.int .i64 0) := fun o => by simp [World.cell?, HY13.out o]
  have y2 : ∀ o, (w13.alloc o).cell? ⟨y, 2, none⟩ = some (.int .u64 0) := fun o => by simp [World.cell?, HY13.out o]
  have y3 : ∀ o, (w13.alloc o).cell? ⟨y, 3, none⟩ = some (.string ⟨#[]⟩) := fun o => by simp [World.cell?, HY13.out o]
  have x0 : ∀ o, (w13.alloc o).cell? ⟨x, 0, none⟩ = some (.int .i64 3) := fun o => by simp [World.cell?, HX13.out o]
  have x1 : ∀ o, (w13.alloc o).cell? ⟨x, 1, none⟩ = some (.int .i64 8) := fun o => by simp [World.cell?, HX13.out o]
  have x2 : ∀ o, (w13.alloc o).cell? ⟨x, 2, none⟩ = some (.int .u64 25) := fun o => by simp [World.cell?, HX13.out o]
  have v0 : ∀ o, (w13.alloc o).cell? ⟨v, 0, none⟩ = some (.int .i64 2) := fun o => by simp [World.cell?, HV13.out o]
  have v1 : ∀ o, (w13.alloc o).cell? ⟨v, 1, none⟩ = some (.int .i64 8) := fun o => by simp [World.cell?, HV13.out o]
  have v2 : ∀ o, (w13.alloc o).cell? ⟨v, 2, none⟩ = some (.int .u64 25) := fun o => by simp [World.cell?, HV13.out o]
  have v3 : ∀ o, (w13.alloc o).cell? ⟨v, 3, none⟩ = some (.string ⟨#[118]⟩) := fun o => by simp [World.cell?, HV13.out o]
  have q1 := eq_fd 1 0 0 1 0 0 ⟨#[]⟩ ⟨#[]⟩
  rw [show eqF 1 0 0 1 0 0 ⟨#[]⟩ ⟨#[]⟩ = true by decide] at q1
  have q2' := eq_fd 2 8 25 2 8 25 ⟨#[118]⟩ ⟨#[118]⟩
  rw [show eqF 2 8 25 2 8 25 ⟨#[118]⟩ ⟨#[118]⟩ = true by decide] at q2'
  clear hb13 KT KN
  rw [hx] at x0 x1 x2
  rw [hv] at v0 v1 v2 v3
  go_wp2
  go_ret
  exact ⟨rfl, by have := HB13.out (.cells #[.int .i64 0, .int .i64 0, .int .u64 0, .string ⟨#[]⟩] 40); rwa [HBE.out] at this⟩
end Go.Proofs.YtknefjigdlbacaaGreatDoor
