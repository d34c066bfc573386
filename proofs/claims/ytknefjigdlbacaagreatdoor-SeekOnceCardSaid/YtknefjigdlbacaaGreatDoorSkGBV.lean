/-
  The walk of SeekOnce. By an AI agent.
-/
import Derived.Test.YtknefjigdlbacaaGreatDoorSkGBU
import Derived.Deep.DeepCutAuto
import Derived.Deep.CutBlock
import Derived.BigQuiet
set_option linter.unusedSimpArgs false
set_option linter.unusedVariables false
namespace Go.Proofs.YtknefjigdlbacaaGreatDoor
open Go.RowKit Go.Maps
open Mm (Mem Blk)
open Sk
def kF1 (keys : List ByteArray) (r : Nat) : List UInt8 := (keys.getD r ⟨#[]⟩).data.toList
/-- How many of the first m have laid, where that is q alone. -/
def ones (q m : Nat) : Nat := if q < m then 1 else 0
theorem ones_hit (q : Nat) : ones q (q + 1) = ones q q + 1 := by unfold ones; simp
theorem ones_miss {q m : Nat} (h : m ≠ q) : ones q (m + 1) = ones q m := by
  unfold ones
  by_cases e : q < m
  · rw [if_pos e, if_pos (by omega)]
  · rw [if_neg e, if_neg (by omega)]
theorem ones_all {q m : Nat} (h : q < m) : ones q m = 1 := if_pos h
theorem ones_le (q m : Nat) : ones q m ≤ 1 := by unfold ones; split <;> omega
set_option maxRecDepth 100000 in
set_option maxHeartbeats 16000000 in
theorem sonce_in (sd : Nat) (keys : List ByteArray) (A0 : Option Addr) (cap : Nat) (A1 : Option Addr) (np cp : Nat) (zs : Nat → Int) (w : World) (hbd : Bd w) (hs : Stx w w.heap.size A0 keys) (hsd : sd < 18446744073709551616) (hL1 : 1 ≤ keys.length) (hL6 : keys.length ≤ 6) (h16 : ∀ r, r < keys.length → (keys.getD r ⟨#[]⟩).size ≤ 16) (hnp : np ≤ 300)
    (hps : ∀ i, i < np → ∃ b off, A1 = some ⟨b, off, none⟩ ∧ b < w.heap.size ∧ w.cell? ⟨b, off + i, none⟩ = some (.int .i64 (zs i))) :
    Calls Tryz.prog 4 #[.int .u64 (sd : Int), .slice A0 keys.length cap, .slice A1 np cp] w (Gives (.bool true) w) := by
  have KSH := Lib.hid (short_any keys A0 cap w hs (by unfold maxLen; omega) (fun r hr => by have := h16 r hr; unfold maxLen; omega) keys.length (Nat.le_refl _) h16 (fun h => absurd h (Nat.lt_irrefl _)) true (by rw [decide_eq_true (by omega)]))
  have F0 : Few keys.length (kF1 keys) := ⟨hL1, hL6, fun r hr => by
    have := h16 r hr
    unfold kF1; rw [Array.length_toList]; exact this⟩
  have KF := Lib.hid (kfield_any 300 keys.length 0 w hbd (by omega) (by omega) hL1 (by omega) (by omega) (by rw [show Tb.grp ((0 : Nat) : Int) = 1 by decide]; omega))
  have HF := Lib.hid F0
  have HBD := Lib.hid hbd
  have HS := Lib.hid hs
  have HSD := Lib.hid hsd
  have H16 := Lib.hid h16
  have HPS := Lib.hid hps
  obtain ⟨L, hLe⟩ : ∃ L, L = keys.length := ⟨_, rfl⟩
  have HLE := Lib.hid hLe
  rw [← hLe] at KSH KF HF hL1 hL6 ⊢
  have e1 : ¬ (300 : Int) < (np : Int) := by omega
  obtain ⟨B, hB⟩ : ∃ B, B = w.heap.size := ⟨_, rfl⟩
  have HBE := Lib.hid hB
  have HLOW := Lib.hid (show 0 < B by rw [hB]; exact hbd.lt)
  obtain ⟨i9, hi9, hz9, hs9, hb9⟩ := info_parts info_rout
  have Hz9 := Lib.hid hz9; have Hs9 := Lib.hid hs9; have Hb9 := Lib.hid hb9; have Hi9 := Lib.hid hi9
  obtain ⟨i10, hi10, hz10, hs10, hb10⟩ := info_parts info_pseek
  have Hz10 := Lib.hid hz10; have Hs10 := Lib.hid hs10; have Hb10 := Lib.hid hb10; have Hi10 := Lib.hid hi10
  have KF := Lib.hid (show Calls Tryz.prog 14 #[.int .i64 300, .int .i64 (L : Int), .int .i64 0] w (Fielded 300 (2 + 2 * L) (7 + 9 * 1) 0 w) from KF.out)
  clear hz9 hs9 hb9 hi9 hz10 hs10 hb10 hi10 F0 hbd hs hsd h16 hps hLe hB
  go_enter Tryz.func4, Tryz.ntmps4
  go_wp2_with fail
  with_reducible refine KSH.out.mono ?_
  rintro e w1 ⟨rfl, hw1⟩
  obtain rfl : w = w1 := hw1.symm
  clear KSH hw1
  go_wp2_with fail
  with_reducible refine KF.out.mono ?_
  rintro e w2 ⟨p, F2, rfl, hp, ha2, hb2⟩
  clear KF
  rw [← HBE.out] at hp ha2 hb2
  -- the boxes
  obtain ⟨z, hz⟩ : ∃ z, z = w2.heap.size := ⟨_, rfl⟩
  obtain ⟨W2, hW2⟩ : ∃ W2, W2 = w2.alloc (.cells #[.int .u64 2, .int .i64 0] 24) := ⟨_, rfl⟩
  obtain ⟨W3, hW3⟩ : ∃ W3, W3 = W2.alloc (.cells #[] 63) := ⟨_, rfl⟩
  obtain ⟨W4, hW4⟩ : ∃ W4, W4 = W3.alloc (.cells #[] 31) := ⟨_, rfl⟩
  have hB2 : B ≤ w2.heap.size := by rw [HBE.out]; exact hb2.size
  have hsz2 : W2.heap.size = z + 1 := by rw [hW2, hz, World.size_alloc]
  have hsz3 : W3.heap.size = z + 1 + 1 := by rw [hW3, World.size_alloc, hsz2]
  have hb22 : Below w2.heap.size w2 W2 := by rw [hW2]; exact (Below.refl _ w2).alloc (Nat.le_refl _) _
  have hb23 : Below W2.heap.size W2 W3 := by rw [hW3]; exact (Below.refl _ W2).alloc (Nat.le_refl _) _
  have hb34 : Below W3.heap.size W3 W4 := by rw [hW4]; exact (Below.refl _ W3).alloc (Nat.le_refl _) _
  have hb24 : Below W2.heap.size W2 W4 := hb23.trans (hb34.mono (by omega))
  have hb04 : Below w2.heap.size w2 W4 := hb22.trans (hb24.mono (by omega))
  have t2 : W2.heap[z]? = some (.cells #[.int .u64 2, .int .i64 0] 24 (0, 0)) := by rw [hW2, hz]; exact heap_alloc_new w2 _
  have t3 : W3.heap[z + 1]? = some (.cells #[] 63 (0, 0)) := by rw [hW3, ← hsz2]; exact heap_alloc_new W2 _
  have t4 : W4.heap[z + 1 + 1]? = some (.cells #[] 31 (0, 0)) := by rw [hW4, ← hsz3]; exact heap_alloc_new W3 _
  have J0 : Hid (∃ q s M F H, MkAt (kF1 keys) L sd B p z w 0 0 0 (.slice (some ⟨z + 1, 0, none⟩) 0 0) (.slice (some ⟨z + 1 + 1, 0, none⟩) 0 0) W4 q s M F H) := Lib.hid ⟨fun _ => 0, fun r => Sk.start (oC L (kF1 keys) sd r) false, _, F2, fun _ _ => False, onm_zero HF.out, ⟨ha2.below hb04 (Nat.le_refl _), fun i hi => by omega, fun i hi => by omega, fun i j hi => by omega⟩,
    ⟨(hb24.block z (by omega)).trans t2, fun e => e.elim (fun e => by have := (ha2.foot e).2; omega) (fun ⟨i, hi, _⟩ => by omega)⟩,
    ⟨⟨rfl, .inr ⟨z + 1, 0, #[], rfl, by omega, (hb34.block (z + 1) (by omega)).trans t3, Nat.le_refl _, by unfold maxLen; omega, rfl, rfl⟩⟩, ⟨rfl, .inr ⟨z + 1 + 1, 0, #[], rfl, by omega, t4, Nat.le_refl _, by unfold maxLen; omega, rfl, rfl⟩⟩,
      fun g hg e => by
        injection hg with hg
        exact e.elim (fun e => by have := (ha2.foot e).2; simp only at hg; omega) (fun ⟨i, hi, _⟩ => by omega), fun g hg e => by
        injection hg with hg
        exact e.elim (fun e => by have := (ha2.foot e).2; simp only at hg; omega) (fun ⟨i, hi, _⟩ => by omega),
      fun e => by injection e with e; simp only at e; omega, fun e => by injection e with e; simp only at e; omega, fun g hg e => by injection hg with hg; injection e with e; simp only at hg e; omega⟩, hb2.trans (hb04.mono hB2)⟩
  have HW := Lib.hid (show _ ∧ _ ∧ _ ∧ _ ∧ _ ∧ _ from ⟨hz, hW2, hW3, hW4, hsz2, hsz3⟩)
  have HZS := Lib.hid (show W2.heap.size = z + 1 ∧ W3.heap.size = z + 1 + 1 from ⟨hsz2, hsz3⟩)
  clear hp ha2 hb2 hz hW2 hW3 hW4 hB2 hsz2 hsz3 hb22 hb23 hb34 hb24 hb04 t2 t3 t4
  go_wp2_with (rw [← HW.out.2.1, ← HW.out.1])
  rw [← HW.out.2.2.1, ← HW.out.2.2.2.1, HZS.out.1]
  clear HW
  go_loopw [9, 10, 11, 12, 13] (fun v9 v10 i _ _ wr => ∃ k : Nat, k ≤ L ∧ i = .int .i64 k ∧ Hid (∃ q s M F H, MkAt (kF1 keys) L sd B p z w k k k v9 v10 wr q s M F H)) (fun _ _ i _ _ _ => L - (intOf i).toNat)
  case atStart => exact ⟨0, by omega, rfl, J0⟩
  case round =>
    clear J0
    obtain ⟨k, hk, rfl, HI⟩ := hrel
    by_cases hlt : k < L
    · obtain ⟨q, s, M, F, H, hI⟩ := HI.out
      have hkL : k < keys.length := by rw [← HLE.out]; omega
      have hltZ : (k : Int) < (L : Int) := by omega
      obtain ⟨b0, off, rfl, kca⟩ := HS.out.at hkL
      obtain ⟨key, hkey⟩ : ∃ key, key = keys.getD k ⟨#[]⟩ := ⟨_, rfl⟩
      have hk16 := H16.out k hkL
      rw [← hkey, ← HBE.out] at kca
      rw [← hkey] at hk16
      have HKEY := Lib.hid (show kF1 keys k = key.data.toList by unfold kF1; rw [hkey])
      have KC := Lib.hid kca
      obtain ⟨W1, hW1⟩ : ∃ W1, W1 = wr.alloc (.cells #[.int .u64 1, .int .i64 (k : Int), .int .i64 (L : Int), .int .i64 1, .int .u64 (sd : Int)] 26) := ⟨_, rfl⟩
      obtain ⟨y, hy⟩ : ∃ y, y = wr.heap.size := ⟨_, rfl⟩
      have hBr : B ≤ wr.heap.size := by rw [HBE.out]; exact hI.2.2.2.2.size
      have hbW : Below wr.heap.size wr W1 := by rw [hW1]; exact (Below.refl _ wr).alloc (Nat.le_refl _) _
      have o1 : W1.heap[y]? = some (.cells #[.int .u64 1, .int .i64 (k : Int), .int .i64 (L : Int), .int .i64 1, .int .u64 (sd : Int)] 26 (0, 0)) := by rw [hW1, hy]; exact heap_alloc_new wr _
      have hI1 := hI.below hbW hBr
      have hS1 : Aside F W1.drew y (.cells #[.int .u64 1, .int .i64 (k : Int), .int .i64 (L : Int), .int .i64 1, .int .u64 (sd : Int)] 26 (0, 0)) := ⟨o1, fun e => by have := (hI.2.1.ar.foot e).2; omega⟩
      have hI2 := hI1.below (Below.refl _ W1).drew (Nat.le_trans hBr hbW.size)
      have hT1 : Aside F W1.drew z (.cells #[.int .u64 2, .int .i64 0] 24 (0, 0)) := ⟨hI2.2.2.1.at', fun e => hI2.2.2.1.apart (.inl e)⟩
      have hsd : W1.drew.cell? ⟨y, 0, none⟩ = some (.int .u64 1) ∧ W1.drew.cell? ⟨y, 1, none⟩ = some (.int .i64 (k : Int)) ∧ W1.drew.cell? ⟨y, 2, none⟩ = some (.int .i64 (L : Int)) ∧ W1.drew.cell? ⟨y, 3, none⟩ = some (.int .i64 1) ∧ W1.drew.cell? ⟨y, 4, none⟩ = some (.int .u64 (sd : Int)) ∧ W1.drew.cell? ⟨z, 0, none⟩ = some (.int .u64 2) ∧ W1.drew.cell? ⟨z, 1, none⟩ = some (.int .i64 0) ∧ W1.drew.cell? ⟨b0, off + k, none⟩ = some (.string key) := ⟨hS1.cell 0 rfl, hS1.cell 1 rfl, hS1.cell 2 rfl, hS1.cell 3 rfl, hS1.cell 4 rfl, hT1.cell 0 rfl, hT1.cell 1 rfl, kca _ hI2.2.2.2.2⟩
      have HIN := Lib.hid (show _ ∧ _ ∧ _ ∧ _ from ⟨hI2, hS1, hT1, Nat.le_trans hBr hbW.size⟩)
      have HW1 := Lib.hid hW1
      have HY := Lib.hid hy
      clear hI hI1 hI2 hS1 hT1 o1 hbW hW1 hy HI hkey kca hkL
      go_wp2
      rw [← HW1.out, ← HY.out]
      refine wp_region_held_drew (S := fun W => W.cell? ⟨y, 0, none⟩ = some (.int .u64 1) ∧ W.cell? ⟨y, 1, none⟩ = some (.int .i64 (k : Int)) ∧ W.cell? ⟨y, 2, none⟩ = some (.int .i64 (L : Int)) ∧ W.cell? ⟨y, 3, none⟩ = some (.int .i64 1) ∧ W.cell? ⟨y, 4, none⟩ = some (.int .u64 (sd : Int)) ∧ W.cell? ⟨z, 0, none⟩ = some (.int .u64 2) ∧ W.cell? ⟨z, 1, none⟩ = some (.int .i64 0) ∧ W.cell? ⟨b0, off + k, none⟩ = some (.string key)) (by kernel_rfl) hsd (fun hS => ?_)
      clear hsd
      refine wpAnyH_take (i := 0) (v := .agg #[.int .u64 1, .int .i64 (k : Int), .int .i64 (L : Int), .int .i64 1, .int .u64 (sd : Int)]) rfl (by kernel_rfl) (by kernel_rfl) (by kernel_rfl) (fun _ _ _ h => h) (Or.inl ⟨by kernel_rfl, fun w hS => by obtain ⟨s1, s2, s3, s4, s5, s6, s7, s8⟩ := hS; go_simp⟩) hS ?_
      refine wpAnyH_take (i := 1) (v := .agg #[.int .u64 2, .int .i64 0]) rfl (by kernel_rfl) (by kernel_rfl) (by kernel_rfl) (fun _ _ _ h => h) (Or.inl ⟨by kernel_rfl, fun w hS => by obtain ⟨s1, s2, s3, s4, s5, s6, s7, s8⟩ := hS; go_simp⟩) hS ?_
      refine wpAnyH_take (i := 2) (v := .slice (some ⟨b0, off, none⟩) L cap) rfl (by kernel_rfl) (by kernel_rfl) (by kernel_rfl) (fun _ _ _ h => h) (Or.inl ⟨by kernel_rfl, fun w hS => by kernel_rfl⟩) hS ?_
      refine wpAnyH_take (i := 3) (v := .int .i64 (k : Int)) rfl (by kernel_rfl) (by kernel_rfl) (by kernel_rfl) (fun _ _ _ h => h) (Or.inl ⟨by kernel_rfl, fun w hS => by kernel_rfl⟩) hS ?_
      refine wpAnyH_take (i := 4) (v := .pointer (some ⟨b0, off + k, none⟩)) rfl (by kernel_rfl) (by kernel_rfl) (by kernel_rfl) (fun _ _ _ h => h) (Or.inl ⟨by kernel_rfl, fun w hS => by go_simp⟩) hS ?_
      refine wpAnyH_take (i := 5) (v := .string key) rfl (by kernel_rfl) (by kernel_rfl) (by kernel_rfl) (fun _ _ _ h => h) (Or.inl ⟨by kernel_rfl, fun w hS => by obtain ⟨s1, s2, s3, s4, s5, s6, s7, s8⟩ := hS; go_simp⟩) hS ?_
      refine wpAnyH_take (i := 6) (v := .pointer (some ⟨p, 0, none⟩)) rfl (by kernel_rfl) (by kernel_rfl) (by kernel_rfl) (fun _ _ _ h => h) (Or.inl ⟨by kernel_rfl, fun w hS => by kernel_rfl⟩) hS ?_
      refine wpAnyH_take (i := 7) (v := .slice (some ⟨b0, off, none⟩) L cap) rfl (by kernel_rfl) (by kernel_rfl) (by kernel_rfl) (fun _ _ _ h => h) (Or.inl ⟨by kernel_rfl, fun w hS => by kernel_rfl⟩) hS ?_
      refine wpAnyH_take (i := 8) (v := .int .i64 (k : Int)) rfl (by kernel_rfl) (by kernel_rfl) (by kernel_rfl) (fun _ _ _ h => h) (Or.inl ⟨by kernel_rfl, fun w hS => by kernel_rfl⟩) hS ?_
      refine wpAnyH_take (i := 9) (v := .pointer (some ⟨b0, off + k, none⟩)) rfl (by kernel_rfl) (by kernel_rfl) (by kernel_rfl) (fun _ _ _ h => h) (Or.inl ⟨by kernel_rfl, fun w hS => by go_simp⟩) hS ?_
      refine wpAnyH_take (i := 10) (v := .string key) rfl (by kernel_rfl) (by kernel_rfl) (by kernel_rfl) (fun _ _ _ h => h) (Or.inl ⟨by kernel_rfl, fun w hS => by obtain ⟨s1, s2, s3, s4, s5, s6, s7, s8⟩ := hS; go_simp⟩) hS ?_
      obtain ⟨hI, hS1, hT1, hB1⟩ := HIN.out
      have hAx := hI.2.1.ar
      have hl := hI.1.last
      have hkb : key.data.toList.length ≤ 16 := by rw [Array.length_toList]; exact hk16
      have hbx := bx_bd hkb (show (([] : List UInt8)).length ≤ 24 by show 0 ≤ 24; omega)
      have KBX := kboxed_any key ⟨#[]⟩ hAx HLOW.out hB1 hkb (by show 0 ≤ 24; omega) (by
        have h1 := hI.1.room
        have h2 := hI.1.used
        have h3 := hbx.2
        show (Kr.bx key.data.toList []).length ≤ M.room - Mm.used M.L
        omega) (by omega)
      rw [show (⟨#[]⟩ : ByteArray).data.toList = [] from rfl, ← HKEY.out] at KBX
      have KBX := Lib.hid KBX
      have HL1 := Lib.hid (show M.last + 1 = 3 + k by omega)
      have HLB := Lib.hid (show ∀ k, F k → B ≤ k from fun k hk => (hAx.foot hk).1)
      clear hI hS1 hT1 hB1 hAx hl hkb hbx
      refine wpAnyH_ready (rs := [11]) (by kernel_rfl) (by simp) ?_
      refine AllReadyH.cons rfl (fun K hK => ?_) AllReadyH.nil
      go_simp
      go_at_call 15
      refine KBX.out.mono ?_
      rintro e w5 ⟨rfl, F5, hA5, ht5⟩
      rw [HL1.out]
      obtain ⟨hI, hS1, hT1, hB1⟩ := HIN.out
      have hS15 := hS1.tn ht5
      have hT15 := hT1.tn ht5
      have hB5 : Below B w w5 := hI.2.2.2.2.trans (ht5.below HLB.out hB1)
      have hs5 : w5.cell? ⟨y, 0, none⟩ = some (.int .u64 1) ∧ w5.cell? ⟨y, 1, none⟩ = some (.int .i64 (k : Int)) ∧ w5.cell? ⟨y, 2, none⟩ = some (.int .i64 (L : Int)) ∧ w5.cell? ⟨y, 3, none⟩ = some (.int .i64 1) ∧ w5.cell? ⟨y, 4, none⟩ = some (.int .u64 (sd : Int)) ∧ w5.cell? ⟨z, 0, none⟩ = some (.int .u64 2) ∧ w5.cell? ⟨z, 1, none⟩ = some (.int .i64 0) ∧ w5.cell? ⟨b0, off + k, none⟩ = some (.string key) := ⟨hS15.cell 0 rfl, hS15.cell 1 rfl, hS15.cell 2 rfl, hS15.cell 3 rfl, hS15.cell 4 rfl, hT15.cell 0 rfl, hT15.cell 1 rfl, KC.out _ hB5⟩
      have KN := Lib.hid (show Calls Tryz.prog 7 #[.agg #[.int .u64 1, .int .i64 (k : Int), .int .i64 (L : Int), .int .i64 1, .int .u64 (sd : Int)], .agg #[.int .u64 2, .int .i64 0], .string key, .int .u64 ((3 + k : Nat) : Int), .bool false] w5 (Knew (oC L (kF1 keys) sd k) false w5) by
        have := knew_yes (w := w5) 1 (k : Int) (L : Int) 1 sd 2 0 key (3 + k) false (HBD.out.below (by rw [← HBE.out]; exact hB5)) k rfl ((onm_std (sd := sd) HF.out HLOW.out).sit k hlt).dr (by decide) hk16 HSD.out
        rw [show oC L (kF1 keys) sd k = seekOf 1 k (L : Int) 1 sd 2 0 key (3 + k) by unfold oC cK seekOf; rw [HKEY.out]]
        exact this)
      have HIN5 := Lib.hid (show _ ∧ _ ∧ _ ∧ _ ∧ _ from ⟨hA5, ht5, hS15, hT15, hB5⟩)
      clear hI hS1 hT1 hB1 hA5 ht5 hS15 hT15 hB5 KBX HLB HL1 hS
      refine hK.out _ _ hs5 (fun hS => ?_)
      clear hK K hs5
      refine wpAnyH_ready (rs := [12]) (by kernel_rfl) (by simp) ?_
      refine AllReadyH.cons rfl (fun K hK => ?_) AllReadyH.nil
      go_simp
      go_at_call 7
      refine KN.out.mono ?_
      rintro e w6 ⟨x, rfl, hq, hk6, hb6⟩
      obtain ⟨hI, -, -, hB1⟩ := HIN.out
      obtain ⟨hA5, ht5, hS1, hT1, hB5⟩ := HIN5.out
      have hs5B : B ≤ w5.heap.size := by rw [HBE.out]; exact hB5.size
      have hS16 := hS1.below hb6
      have hT16 := hT1.below hb6
      have hB6 : Below B w w6 := hB5.trans (hb6.mono hs5B)
      have hs6 : w6.cell? ⟨y, 0, none⟩ = some (.int .u64 1) ∧ w6.cell? ⟨y, 1, none⟩ = some (.int .i64 (k : Int)) ∧ w6.cell? ⟨y, 2, none⟩ = some (.int .i64 (L : Int)) ∧ w6.cell? ⟨y, 3, none⟩ = some (.int .i64 1) ∧ w6.cell? ⟨y, 4, none⟩ = some (.int .u64 (sd : Int)) ∧ w6.cell? ⟨z, 0, none⟩ = some (.int .u64 2) ∧ w6.cell? ⟨z, 1, none⟩ = some (.int .i64 0) ∧ w6.cell? ⟨b0, off + k, none⟩ = some (.string key) := ⟨hS16.cell 0 rfl, hS16.cell 1 rfl, hS16.cell 2 rfl, hS16.cell 3 rfl, hS16.cell 4 rfl, hT16.cell 0 rfl, hT16.cell 1 rfl, KC.out _ hB6⟩
      have HM := Lib.hid (hI.made HF.out hlt (Nat.le_refl k) (Nat.le_refl k) hB1 hA5 ht5 hq (ks_start hk6 (Nat.le_trans hs5B hq)) hb6)
      have HB6 := Lib.hid (show B ≤ w6.heap.size from Nat.le_trans hs5B hb6.size)
      clear hI hB1 hA5 ht5 hS1 hT1 hB5 hs5B hS16 hT16 hB6 hq hk6 hb6 KN HIN HIN5 hS
      refine hK.out _ _ hs6 (fun hS => ?_)
      clear hK K hs6
      refine wpAnyH_take (i := 13) (v := .pointer (some ⟨x, 0, none⟩)) rfl (by kernel_rfl) (by kernel_rfl) (by kernel_rfl) (fun _ _ _ h => h) (Or.inl ⟨by kernel_rfl, fun w hS => by kernel_rfl⟩) hS ?_
      refine wpAnyH_done (by kernel_rfl) ?_ _
      clear hS HKEY KC hk16
      generalize hq' : updq q k x = q1 at *
      have HQK := Lib.hid (show q1 k = x by rw [← hq']; exact updq_same q k x)
      generalize Sk.upd s k (Sk.start (oC L (kF1 keys) sd k) false) = s1 at *
      generalize updH H k (fun j => j = x) = H1 at *
      generalize Smx M (Kr.up (Kr.bx (kF1 keys k) [])) = M1 at *
      clear hq'
      have HC1 : Hid (∀ i u, [Value.pointer (some ⟨x, 0, none⟩)][i]? = some u → (w6.alloc (.cells #[Value.pointer (some ⟨x, 0, none⟩)] 31)).cell? ((⟨w6.heap.size, 0, none⟩ : Addr).add i) = some u) := Lib.hid (cell_one_new w6 _ _)
      have hMX := HM.out.below ((Below.refl w6.heap.size w6).alloc (Nat.le_refl _) (.cells #[Value.pointer (some ⟨x, 0, none⟩)] 31)) HB6.out
      have HMX := Lib.hid hMX
      have HR10 := Lib.hid hMX.2.2.2.1.r10
      have hB6 := HB6.out
      clear hMX HM
      go_upto_region 12 with (at_builtin; refine wpList_append_own_at _ rfl _ _ 56 rfl B 31 i10 (.pointer none) 1 8 Tryz.underlying56 Hi10.out Hz10.out Hs10.out Hb10.out rfl (by decide) _ _ _ rfl HR10.out ⟨w6.heap.size, 0, none⟩ 1 1 [Value.pointer (some ⟨x, 0, none⟩)] rfl rfl HC1.out (by simp [Value.oneCell']) (by unfold maxLen; omega) (by omega) (by simp; omega) ?_; intro va wa howna hgrowa _ hata)
      have HMa := Lib.hid (HMX.out.take10 (by rw [World.size_alloc]; omega) (by rw [HQK.out]; exact howna) hgrowa hata)
      have hsza : w6.heap.size ≤ wa.heap.size := by have := hgrowa.size; rw [World.size_alloc] at this; omega
      clear howna hgrowa hata HMX HR10 HC1
      have hBa : B ≤ wa.heap.size := by omega
      have HC2 : Hid (∀ i u, [rvk x][i]? = some u → (wa.alloc (.cells #[rvk x] 63)).cell? ((⟨wa.heap.size, 0, none⟩ : Addr).add i) = some u) := Lib.hid (cell_one_new wa _ _)
      have hMX := HMa.out.below ((Below.refl wa.heap.size wa).alloc (Nat.le_refl _) (.cells #[rvk x] 63)) hBa
      have HMX := Lib.hid hMX
      have HR9 := Lib.hid hMX.2.2.2.1.r9
      clear hMX HMa
      go_wp2_with (at_builtin; refine wpList_append_own_at _ rfl _ _ 55 rfl B 63 i9 .nilIface 1 16 Tryz.underlying55 Hi9.out Hz9.out Hs9.out Hb9.out rfl (by decide) _ _ _ rfl HR9.out ⟨wa.heap.size, 0, none⟩ 1 1 [rvk x] rfl rfl HC2.out (by simp [Value.oneCell']) (by unfold maxLen; omega) (by omega) (by simp; omega) ?_; intro vb wb hownb hgrowb _ hatb)
      have HMb := Lib.hid (HMX.out.take9 (by rw [World.size_alloc]; omega) (by rw [HQK.out]; exact hownb) hgrowb hatb)
      clear hownb hgrowb hatb HMX HR9 HC2
      all_goals go_wp2
      all_goals go_roundw
      case rel => exact ⟨k + 1, by omega, by go_num, Lib.hid ⟨_, _, _, _, _, HMb.out⟩⟩
      case measure => simp [intOf]; omega
    · obtain rfl : L = k := by omega
      obtain ⟨w0, hw0⟩ : ∃ w0, w0 = wr := ⟨_, rfl⟩
      subst hw0
      obtain ⟨q, s, M, F, H, h1, h2, h3, h4, h5⟩ := HI.out
      obtain ⟨g9, c9, rfl, hg9, ho9, -, -, -⟩ := row_cell h4.r9 (i := 0) hL1
      obtain ⟨g10, c10, rfl, hg10, ho10, -, -, -⟩ := row_cell h4.r10 (i := 0) hL1
      have hBr : B ≤ w0.heap.size := by rw [HBE.out]; exact h5.size
      have hbd : Bd w0 := HBD.out.below (by rw [← HBE.out]; exact h5)
      have hmids : Mids (oB L (kF1 keys)) 1 L (2 + L) 0 M B w0 F H p L q (oC L (kF1 keys) sd) s M F H w0 := ⟨onm_mid h1, h2, hbd, Tn.refl _ _⟩
      have KRUN := krun_any (onm_std HF.out HLOW.out) hmids hBr hL1 (by omega) (some ⟨g9, 0, none⟩) c9 (fun i hi => by
        obtain ⟨g, cap, e, hg, ho, -, -, hc⟩ := row_cell h4.r9 hi
        injection e with e1 e2 e3
        injection e1 with e1
        injection e1 with e1
        subst e1
        exact ⟨g9, 0, rfl, hg9, h4.o9 g9 ho9, by rw [hc, vals9_at hi]⟩) A1 np cp (by omega) (by omega) zs (fun i hi => by
        obtain ⟨b, off, e, hb, hc⟩ := HPS.out i hi
        refine ⟨b, off, e, by have := h5.size; omega, fun e => by have := (h2.foot e).1; have := HBE.out; omega, ?_⟩
        unfold World.cell? at hc ⊢
        rw [h5.block b (by rw [HBE.out]; exact hb)]
        exact hc)
      have KRUN := Lib.hid KRUN
      have HROWS := Lib.hid (show Rws B (Tots L F H) z q L L _ _ w0 from h4)
      have HMF := Lib.hid (show M.faults = 0 ∧ (∀ k, Tots L F H k → B ≤ k) ∧ Below B w w0 ∧ B ≤ w0.heap.size from ⟨h1.faults, fun k hk => (h2.foot hk).1, h5, hBr⟩)
      have hltZ : ¬ (L : Int) < (L : Int) := by omega
      clear h1 h2 h3 h4 h5 hg9 ho9 hg10 ho10 hBr hbd hmids HI hlt hk HPS
      go_wp2_with fail
      with_reducible refine KRUN.out.mono ?_
      rintro e w3 ⟨vv, rfl, s3, M3, F3, H3, hm3⟩
      have J1 : Hid (∃ s' M' F' H', Mids (oB L (kF1 keys)) 1 L (2 + L) (np + 600 * 0) M B w0 F H p L q (oC L (kF1 keys) sd) s' M' F' H' w3 ∧ (∀ r, r < 0 → (s' r).p = 0) ∧ Rws B (Tots L F' H') z q L L (.slice (some ⟨g9, 0, none⟩) L c9) (.slice (some ⟨g10, 0, none⟩) L c10) w3) := Lib.hid ⟨s3, M3, F3, H3, by rw [show np + 600 * 0 = 0 + np by omega]; exact hm3, fun r hr => by omega, HROWS.out.tn hm3.2.2.2⟩
      clear hm3 KRUN HROWS hltZ
      go_wp2
      go_loopw [14, 15, 16] (fun i _ _ W => ∃ k : Nat, k ≤ L ∧ i = .int .i64 k ∧ Hid (∃ s' M' F' H', Mids (oB L (kF1 keys)) 1 L (2 + L) (np + 600 * k) M B w0 F H p L q (oC L (kF1 keys) sd) s' M' F' H' W ∧ (∀ r, r < k → (s' r).p = 0) ∧ Rws B (Tots L F' H') z q L L (.slice (some ⟨g9, 0, none⟩) L c9) (.slice (some ⟨g10, 0, none⟩) L c10) W)) (fun i _ _ _ => L - (intOf i).toNat)
      case atStart => exact ⟨0, by omega, rfl, J1⟩
      case round =>
        clear J1
        obtain ⟨k, hk, rfl, HI⟩ := hrel
        by_cases hlt : k < L
        · obtain ⟨s', M', F', H', hm, hend, hrw⟩ := HI.out
          have hltZ : (k : Int) < (L : Int) := by omega
          obtain ⟨g, cap', e, hg, ho, -, -, hc⟩ := row_cell hrw.r9 hlt
          rw [vals9_at hlt] at hc
          have lc : wr.cell? ⟨g9, k, none⟩ = some (rvk (q k)) := by
            injection e with e1
            injection e1 with e1
            injection e1 with e1
            rw [e1]; rw [Nat.zero_add] at hc; exact hc
          obtain ⟨N, t, t', hN, D, hmid⟩ := mid_alone (onm_std (sd := sd) HF.out HLOW.out).env hm.1 hlt ((onm_std (sd := sd) HF.out HLOW.out).lay k hlt) (by omega) (by omega)
          have hBx : B ≤ wr.heap.size := Nat.le_trans HMF.out.2.2.2 hm.2.2.2.size
          have KA := Lib.hid (alone_runs ((onm_std (sd := sd) HF.out HLOW.out).sit k hlt) (done_runs D) hm.2.1.ar (hm.2.1.ro k hlt) (hm.2.1.d0 k hlt) hm.2.2.1 HLOW.out hBx (by omega) 100000 (by omega))
          have HIN := Lib.hid (show _ ∧ _ ∧ _ ∧ _ ∧ _ from ⟨hm, hend, hrw, D.fin, mid_mono hmid (show np + 600 * k + N ≤ np + 600 * (k + 1) by omega)⟩)
          clear hm hend hrw e hg ho hc D hmid hBx hN HI
          go_wp2_with fail
          with_reducible refine KA.out.mono ?_
          rintro e w7 ⟨rfl, F7, H7, hA7, hK7, hbd7, hap7, ht7⟩
          obtain ⟨hm, hend, hrw, hfin, hmid⟩ := HIN.out
          obtain ⟨hms7, htt⟩ := hm.2.1.step hlt hA7 hK7 hap7 ht7
          have J7 : Hid (∃ s' M' F' H', Mids (oB L (kF1 keys)) 1 L (2 + L) (np + 600 * (k + 1)) M B w0 F H p L q (oC L (kF1 keys) sd) s' M' F' H' w7 ∧ (∀ r, r < k + 1 → (s' r).p = 0) ∧ Rws B (Tots L F' H') z q L L (.slice (some ⟨g9, 0, none⟩) L c9) (.slice (some ⟨g10, 0, none⟩) L c10) w7) := Lib.hid ⟨_, _, _, _, ⟨hmid, hms7, hbd7, hm.2.2.2.trans htt⟩, fun r hr => by
            by_cases e : r = k
            · subst e; rw [Sk.upd_same]; exact hfin
            · rw [Sk.upd_ne e]; exact hend r (by omega), hrw.tn htt⟩
          clear hA7 hK7 hbd7 hap7 ht7 hm hend hrw hfin hmid hms7 htt HIN KA
          go_wp2
          go_roundw
          case rel => exact ⟨k + 1, by omega, by go_num, J7⟩
          case measure => simp [intOf]; omega
        · obtain rfl : L = k := by omega
          obtain ⟨w1, hw1⟩ : ∃ w1, w1 = wr := ⟨_, rfl⟩
          subst hw1
          obtain ⟨s', M', F', H', hm, hend, hrw⟩ := HI.out
          obtain ⟨f1, f2, f3, f4, f5⟩ := onm_end HF.out hm.1 hend
          have hBw1 : Below B w w1 := HMF.out.2.2.1.trans (hm.2.2.2.below HMF.out.2.1 HMF.out.2.2.2)
          have hmore : ∀ i, i < L → Sk.more (s' i) = false := fun i hi => by
            have e : (s' i).p = 0 := hend i hi
            unfold Sk.more
            rw [e]
            rfl
          have KRES : ∀ W : World, Below w1.heap.size w1 W → ∀ i, i < L → Calls Tryz.prog 11 #[.pointer (some ⟨q i, 0, none⟩)] W (Gives (.tuple #[fv (s' i).f, .bool (!Sk.more (s' i))]) W) := fun W hb i hi => skres_any ((hm.2.1.ro i hi).below hb) (f4 i hi)
          have KRES := Lib.hid KRES
          have HMORE := Lib.hid hmore
          clear hmore
          have KROW : ∀ W : World, Below w1.heap.size w1 W → ∀ i, i < L → W.cell? ⟨g10, i, none⟩ = some (.pointer (some ⟨q i, 0, none⟩)) := fun W hb i hi => by
            obtain ⟨g, cap', e, hg, ho, -, -, hc⟩ := row_cell (row_below hrw.r10 hb) hi
            rw [vals10_at hi] at hc
            injection e with e1
            injection e1 with e1
            injection e1 with e1
            rw [e1]; rw [Nat.zero_add] at hc; exact hc
          have KROW := Lib.hid KROW
          have hfz : M'.faults = 0 := f5.trans HMF.out.1
          have KFW : ∀ W : World, Below w1.heap.size w1 W → Calls Tryz.prog 18 #[.pointer (some ⟨p, 0, none⟩)] W (Same (.int .i64 ((M'.faults : Nat) : Int)) W) := fun W hb => faults_any (hm.2.1.ar.below hb (Nat.le_refl _))
          rw [hfz] at KFW
          have KFW := Lib.hid KFW
          clear hfz
          have HFF := Lib.hid (show _ ∧ _ ∧ _ from ⟨f1, f2, f3⟩)
          have HBW1 := Lib.hid (show Below B w w1 ∧ B ≤ w1.heap.size from ⟨hBw1, by have := hBw1.size; have := HBE.out; omega⟩)
          obtain ⟨b0, off, rfl, hkc⟩ := HS.out.all (by rw [← HLE.out]; exact hL1)
          have KKEY := Lib.hid (fun (W : World) (hb : Below w1.heap.size w1 W) (i : Nat) (hi : i < L) => hkc i (by rw [← HLE.out]; exact hi) W (by rw [← HBE.out]; exact HBW1.out.1.trans (hb.mono HBW1.out.2)))
          have hltZ : ¬ (L : Int) < (L : Int) := by omega
          clear hm hend hrw f1 f2 f3 f4 f5 hBw1 HI hlt hk hkc
          go_wp2
          clear hltZ
          go_loopw [17, 18, 19, 20, 21, 22, 23] (fun i _ _ _ _ _ _ W => ∃ k : Nat, k ≤ L ∧ i = .int .i64 k ∧ Hid (Below w1.heap.size w1 W)) (fun i _ _ _ _ _ _ _ => L - (intOf i).toNat)
          case atStart => exact ⟨0, by omega, rfl, Lib.hid (Below.refl _ _)⟩
          case round =>
            obtain ⟨k, hk, rfl, HI⟩ := hrel
            by_cases hlt : k < L
            · have hltZ : (k : Int) < (L : Int) := by omega
              have rc := KROW.out wr HI.out k hlt
              obtain ⟨f, hf⟩ : ∃ f, f = (s' k).f := ⟨_, rfl⟩
              have KR := KRES.out wr HI.out k hlt
              rw [← hf, HMORE.out k hlt] at KR
              obtain ⟨fk, fc, fw, fl⟩ := f
              have HFK := Lib.hid hf
              have KR := Lib.hid (show Calls Tryz.prog 11 #[.pointer (some ⟨q k, 0, none⟩)] wr (Gives (.tuple #[.agg #[.int .i64 (fk : Int), .int .i64 fc, .int .u64 (fw : Int), .string ⟨fl.toArray⟩], .bool true]) wr) from KR)
              clear hf
              go_wp2_with fail
              with_reducible refine KR.out.mono ?_
              rintro e w2 ⟨rfl, hb2⟩
              obtain ⟨W2, hW2⟩ : ∃ W2, W2 = w2.alloc (.cells #[.int .i64 (fk : Int), .int .i64 fc, .int .u64 (fw : Int), .string ⟨fl.toArray⟩] 40) := ⟨_, rfl⟩
              obtain ⟨y, hy⟩ : ∃ y, y = w2.heap.size := ⟨_, rfl⟩
              have hbW : Below w2.heap.size w2 W2 := by rw [hW2]; exact (Below.refl _ w2).alloc (Nat.le_refl _) _
              have o2 : W2.heap[y]? = some (.cells #[.int .i64 (fk : Int), .int .i64 fc, .int .u64 (fw : Int), .string ⟨fl.toArray⟩] 40 (0, 0)) := by rw [hW2, hy]; exact heap_alloc_new w2 _
              have hb12 : Below w1.heap.size w1 W2 := HI.out.trans ((hb2.trans (hbW.mono hb2.size)).mono HI.out.size)
              obtain ⟨qd, hqd⟩ := HFF.out.2.2 k hlt
              have HQD := Lib.hid hqd
              have J2 : Hid (Below w1.heap.size w1 W2 ∧ W2.heap[y]? = some (.cells #[.int .i64 (fk : Int), .int .i64 fc, .int .u64 (fw : Int), .string ⟨fl.toArray⟩] 40 (0, 0))) := Lib.hid ⟨hb12, o2⟩
              have HW2 := Lib.hid hW2
              have HY := Lib.hid hy
              clear hbW o2 hb12 hqd hW2 hy hb2 KR rc HI hltZ
              go_wp2
              rw [← HW2.out, ← HY.out]
              clear HW2 HY
              go_loopw [20, 21, 22, 23] (fun la i _ _ W => ∃ m : Nat, m ≤ L ∧ i = .int .i64 m ∧ (∃ ln : Nat, la = .int .i64 (ln : Int) ∧ Hid (ln = ones qd m)) ∧ Hid (Below w1.heap.size w1 W ∧ W.heap[y]? = some (.cells #[.int .i64 (fk : Int), .int .i64 fc, .int .u64 (fw : Int), .string ⟨fl.toArray⟩] 40 (0, 0)))) (fun _ i _ _ _ => L - (intOf i).toNat)
              case atStart => exact ⟨0, by omega, rfl, ⟨0, rfl, Lib.hid rfl⟩, J2⟩
              case round =>
                clear J2
                obtain ⟨m, hm, rfl, ⟨ln, rfl, HLN⟩, HI⟩ := hrel
                by_cases hml : m < L
                · have hmlZ : (m : Int) < (L : Int) := by omega
                  have rc := KROW.out wr HI.out.1 m hml
                  obtain ⟨f, hf⟩ : ∃ f, f = (s' m).f := ⟨_, rfl⟩
                  have KR := KRES.out wr HI.out.1 m hml
                  rw [← hf, HMORE.out m hml] at KR
                  obtain ⟨gk, gc, gw, gl⟩ := f
                  have HGK := Lib.hid hf
                  have KR := Lib.hid (show Calls Tryz.prog 11 #[.pointer (some ⟨q m, 0, none⟩)] wr (Gives (.tuple #[.agg #[.int .i64 (gk : Int), .int .i64 gc, .int .u64 (gw : Int), .string ⟨gl.toArray⟩], .bool true]) wr) from KR)
                  clear hf
                  go_wp2_with fail
                  with_reducible refine KR.out.mono ?_
                  rintro e w4 ⟨rfl, hb4⟩
                  obtain ⟨W4, hW4⟩ : ∃ W4, W4 = w4.alloc (.cells #[.int .i64 (gk : Int), .int .i64 gc, .int .u64 (gw : Int), .string ⟨gl.toArray⟩] 40) := ⟨_, rfl⟩
                  obtain ⟨x, hx⟩ : ∃ x, x = w4.heap.size := ⟨_, rfl⟩
                  have hbW : Below w4.heap.size w4 W4 := by rw [hW4]; exact (Below.refl _ w4).alloc (Nat.le_refl _) _
                  have o4 : W4.heap[x]? = some (.cells #[.int .i64 (gk : Int), .int .i64 gc, .int .u64 (gw : Int), .string ⟨gl.toArray⟩] 40 (0, 0)) := by rw [hW4, hx]; exact heap_alloc_new w4 _
                  have hb14 := hb4.trans (hbW.mono hb4.size)
                  have o2 := (hb14.block y (Array.getElem?_eq_some_iff.1 HI.out.2).1).trans HI.out.2
                  have hbA : Below w1.heap.size w1 W4 := HI.out.1.trans (hb14.mono HI.out.1.size)
                  obtain ⟨km, hkm⟩ : ∃ km, km = keys.getD m ⟨#[]⟩ := ⟨_, rfl⟩
                  obtain ⟨kk, hkk⟩ : ∃ kk, kk = keys.getD k ⟨#[]⟩ := ⟨_, rfl⟩
                  have HALL : ∀ U : World, Below W4.heap.size W4 U → (U.cell? ⟨b0, off + m, none⟩ = some (.string km) ∧ U.cell? ⟨b0, off + k, none⟩ = some (.string kk)) ∧ (U.cell? ⟨x, 0, none⟩ = some (.int .i64 (gk : Int)) ∧ U.cell? ⟨x, 1, none⟩ = some (.int .i64 gc) ∧ U.cell? ⟨x, 2, none⟩ = some (.int .u64 (gw : Int))) ∧ U.cell? ⟨y, 1, none⟩ = some (.int .i64 fc) ∧ U.cell? ⟨y, 2, none⟩ = some (.int .u64 (fw : Int)) := fun U hbU => by
                    have hb := hbA.trans (hbU.mono hbA.size)
                    have u4 := (hbU.block x (Array.getElem?_eq_some_iff.1 o4).1).trans o4
                    have u2 := (hbU.block y (Array.getElem?_eq_some_iff.1 o2).1).trans o2
                    refine ⟨⟨by rw [hkm]; exact KKEY.out U hb m hml, by rw [hkk]; exact KKEY.out U hb k hlt⟩, ⟨?_, ?_, ?_⟩, ?_, ?_⟩ <;> simp [World.cell?, u4, u2]
                  have HALL := Lib.hid HALL
                  have HNX : Hid (∀ U : World, Below W4.heap.size W4 U → Below w1.heap.size w1 U ∧ U.heap[y]? = some (.cells #[.int .i64 (fk : Int), .int .i64 fc, .int .u64 (fw : Int), .string ⟨fl.toArray⟩] 40 (0, 0))) := Lib.hid fun U hbU => ⟨hbA.trans (hbU.mono hbA.size), (hbU.block y (Array.getElem?_eq_some_iff.1 o2).1).trans o2⟩
                  have HKM := Lib.hid (show kF1 keys m = km.data.toList ∧ kF1 keys k = kk.data.toList by rw [hkm, hkk]; exact ⟨rfl, rfl⟩)
                  have HW4 := Lib.hid hW4
                  have HX := Lib.hid hx
                  obtain ⟨⟨c1, c2⟩, ⟨c3, c4, c5⟩, c6, c7⟩ := HALL.out W4 (Below.refl _ _)
                  clear hbW o4 o2 hb4 hb14 hbA hkm hkk hW4 hx KR rc HI
                  have hkZ : (k : Int) < (L : Int) := by omega
                  go_wp2
                  rw [← HW4.out, ← HX.out]
                  clear HW4 HX
                  have hln : ln ≤ 1 := by rw [HLN.out]; exact ones_le _ _
                  have hff : (km = kk → gc = fc ∧ gw = fw) ∧ (km ≠ kk → gc ≠ fc) := by
                    have h := HFF.out.2.1 m k hml hlt
                    rw [HKM.out.1, HKM.out.2, ← HGK.out, ← HFK.out] at h
                    exact ⟨fun e => h.1 (by rw [e]), fun e => h.2 (fun e' => e (ByteArray.ext (Array.toList_inj.1 e')))⟩
                  have hmq : m = qd ↔ km = kk ∧ gk = 3 := by
                    refine ⟨fun e => ?_, fun e => ?_⟩
                    · have h1 := HQD.out.2.1
                      have h2 := HQD.out.2.2.1
                      rw [← e, HKM.out.1, HKM.out.2] at h1
                      rw [← e, ← HGK.out] at h2
                      exact ⟨ByteArray.ext (Array.toList_inj.1 h1), h2⟩
                    · exact HQD.out.2.2.2 m hml (by rw [HKM.out.1, HKM.out.2, e.1]) (by rw [← HGK.out]; exact e.2)
                  by_cases hkk : km = kk
                  · obtain ⟨hgc, hgw⟩ := hff.1 hkk
                    have hmq1 : m = qd ↔ gk = 3 := ⟨fun e => (hmq.1 e).2, fun e => hmq.2 ⟨hkk, e⟩⟩
                    clear hmq hff
                    subst hkk
                    subst hgc
                    subst hgw
                    have hqb : (km.toList == km.toList) = true := by simp
                    by_cases hg : gk = 3
                    · have hgZ : (gk : Int) = 3 := by omega
                      have hgB : ((gk : Int) == 3) = true := by simp [hgZ]
                      have J : Hid (ln + 1 = ones qd (m + 1)) := Lib.hid (by rw [HLN.out, ← hmq1.2 hg]; exact (ones_hit m).symm)
                      clear hmq1 hg
                      go_quiet (fail)
                      obtain ⟨U, hU⟩ : ∃ U, U = W4.drewN nq := ⟨_, rfl⟩
                      rw [← hU]
                      have hbU : Below W4.heap.size W4 U := by rw [hU]; exact below_drewN W4 nq
                      clear c1 c2 c3 c4 c5 c6 c7 hU
                      obtain ⟨⟨c1, c2⟩, ⟨c3, c4, c5⟩, c6, c7⟩ := HALL.out U hbU
                      have HBU := Lib.hid hbU
                      clear hbU
                      go_wp2
                      go_quiet (fail)
                      obtain ⟨V, hV⟩ : ∃ V, V = U.drewN nq := ⟨_, rfl⟩
                      rw [← hV]
                      have hbV : Below W4.heap.size W4 V := HBU.out.trans ((show Below U.heap.size U V by rw [hV]; exact below_drewN U nq).mono HBU.out.size)
                      have J3 := Lib.hid (HNX.out V hbV)
                      clear c1 c2 c3 c4 c5 c6 c7 hV hbV
                      go_wp2
                      go_roundw
                      case rel => exact ⟨m + 1, by omega, by go_num, ⟨ln + 1, by go_num, J⟩, J3⟩
                      case measure => simp [intOf]; omega
                    · have hgZ : ¬ (gk : Int) = 3 := by omega
                      have hgB : ((gk : Int) == 3) = false := by simp [hgZ]
                      have J : Hid (ln = ones qd (m + 1)) := Lib.hid (by rw [HLN.out]; exact (ones_miss fun e => hg (hmq1.1 e)).symm)
                      clear hmq1 hg
                      go_quiet (fail)
                      obtain ⟨U, hU⟩ : ∃ U, U = W4.drewN nq := ⟨_, rfl⟩
                      rw [← hU]
                      have hbU : Below W4.heap.size W4 U := by rw [hU]; exact below_drewN W4 nq
                      clear c1 c2 c3 c4 c5 c6 c7 hU
                      obtain ⟨⟨c1, c2⟩, ⟨c3, c4, c5⟩, c6, c7⟩ := HALL.out U hbU
                      have HBU := Lib.hid hbU
                      clear hbU
                      go_wp2
                      go_quiet (fail)
                      obtain ⟨V, hV⟩ : ∃ V, V = U.drewN nq := ⟨_, rfl⟩
                      rw [← hV]
                      have hbV : Below W4.heap.size W4 V := HBU.out.trans ((show Below U.heap.size U V by rw [hV]; exact below_drewN U nq).mono HBU.out.size)
                      have J3 := Lib.hid (HNX.out V hbV)
                      clear c1 c2 c3 c4 c5 c6 c7 hV hbV
                      go_wp2
                      go_roundw
                      case rel => exact ⟨m + 1, by omega, by go_num, ⟨ln, by go_num, J⟩, J3⟩
                      case measure => simp [intOf]; omega
                  · have hgc := hff.2 hkk
                    have hgB : (gc == fc) = false := by simp [hgc]
                    have hqb : (km.toList == kk.toList) = false := by
                      rw [ByteArray.toList_eq, ByteArray.toList_eq]
                      simp only [beq_eq_false_iff_ne, ne_eq]
                      exact fun e => hkk (ByteArray.ext (Array.toList_inj.1 e))
                    have J : Hid (ln = ones qd (m + 1)) := Lib.hid (by rw [HLN.out]; exact (ones_miss fun e => hkk (hmq.1 e).1).symm)
                    clear hmq hff hkk
                    go_quiet (fail)
                    obtain ⟨U, hU⟩ : ∃ U, U = W4.drewN nq := ⟨_, rfl⟩
                    rw [← hU]
                    have hbU : Below W4.heap.size W4 U := by rw [hU]; exact below_drewN W4 nq
                    clear c1 c2 c3 c4 c5 c6 c7 hU
                    obtain ⟨⟨c1, c2⟩, ⟨c3, c4, c5⟩, c6, c7⟩ := HALL.out U hbU
                    have HBU := Lib.hid hbU
                    clear hbU
                    go_wp2
                    go_quiet (fail)
                    obtain ⟨V, hV⟩ : ∃ V, V = U.drewN nq := ⟨_, rfl⟩
                    rw [← hV]
                    have hbV : Below W4.heap.size W4 V := HBU.out.trans ((show Below U.heap.size U V by rw [hV]; exact below_drewN U nq).mono HBU.out.size)
                    have J3 := Lib.hid (HNX.out V hbV)
                    clear c1 c2 c3 c4 c5 c6 c7 hV hbV
                    go_wp2
                    go_roundw
                    case rel => exact ⟨m + 1, by omega, by go_num, ⟨ln, by go_num, J⟩, J3⟩
                    case measure => simp [intOf]; omega
                · obtain rfl : L = m := by omega
                  have hmlZ : ¬ (L : Int) < (L : Int) := by omega
                  have hln : (ln : Int) = 1 := by
                    have := HLN.out
                    rw [ones_all HQD.out.1] at this
                    omega
                  have hfk : fk = 2 ∨ fk = 3 := by
                    have := HFF.out.1 k hlt
                    rw [← HFK.out] at this
                    exact this
                  have d0 : wr.cell? ⟨y, 0, none⟩ = some (.int .i64 (fk : Int)) := by simp [World.cell?, HI.out.2]
                  have HB := Lib.hid HI.out.1
                  clear HI HLN
                  have hkZ : (k : Int) < (L : Int) := by omega
                  rcases hfk with h | h
                  · have hfZ : (fk : Int) = 2 := by omega
                    clear h
                    go_wp2
                    go_roundw
                    case rel => exact ⟨k + 1, by omega, by go_num, HB⟩
                    case measure => simp [intOf]; omega
                  · have hfZ : (fk : Int) = 3 := by omega
                    clear h
                    go_wp2
                    go_roundw
                    case rel => exact ⟨k + 1, by omega, by go_num, HB⟩
                    case measure => simp [intOf]; omega
            · obtain rfl : L = k := by omega
              have hltZ : ¬ (L : Int) < (L : Int) := by omega
              have hBw : Below w.heap.size w wr := by
                have h := HBW1.out.1.trans (HI.out.mono HBW1.out.2)
                rwa [HBE.out] at h
              have KF := Lib.hid (show Calls Tryz.prog 18 #[.pointer (some ⟨p, 0, none⟩)] wr (Same (.int .i64 0) wr) from KFW.out wr HI.out)
              have KA := Lib.hid (awake_any wr (HBD.out.below hBw))
              have HBW := Lib.hid hBw
              clear hBw HI
              go_wp2_with fail
              with_reducible refine KF.out.mono ?_
              rintro e w8 ⟨rfl, rfl⟩
              go_wp2_with fail
              with_reducible refine KA.out.mono ?_
              rintro e w9 ⟨rfl, hb9⟩
              have BF := Lib.hid (HBW.out.trans (hb9.mono HBW.out.size))
              clear hb9
              go_wp2
              go_ret
              exact ⟨rfl, BF.out⟩
end Go.Proofs.YtknefjigdlbacaaGreatDoor
