/-
  The walk of choosePivotOrdered at words: some place of the range, and some hint. By an AI agent.
-/
import Derived.Test.YthldjdkjgiebaaaSortPivot
set_option linter.unusedSimpArgs false
namespace Go.Proofs.Ythldjdkjgiebaaa.S64
open Go.RowKit Go.Sort
variable {hd tl : List Value} {blk off : Nat}
/-- A place of the range, and a hint; the row is as it was. -/
def Picks (hd tl : List Value) (blk off a b : Nat) (d : Array Int) (w : World) (e : Ending) (w' : World) : Prop := ∃ p h : Nat, e = .returned (.tuple #[.int .i64 (p : Int), .int .i64 (h : Int)]) ∧ a ≤ p ∧ p < b ∧ h ≤ 2 ∧ Pt hd tl blk off d w w'
theorem Bk.pt {bx s : Nat} {w w0 w' : World} {d : Array Int} (hb : Below w.heap.size w w0) (h : Bk bx s w0 w') (hR : Rw hd tl blk off w d) (hx : w.heap.size ≤ bx) : Pt hd tl blk off d w w' := by
  have hlt := hR.lt
  refine ⟨h.os.trans hb.os, h.tape.trans hb.tape, h.output.trans hb.output, Nat.le_trans hb.size h.size, fun k hk _ => (h.block k (Nat.lt_of_lt_of_le hk hb.size) (by omega)).trans (hb.block k hk), ⟨hR.len, (h.block blk (Nat.lt_of_lt_of_le hlt hb.size) (by omega)).trans ((hb.block blk hlt).trans hR.own)⟩⟩
set_option maxRecDepth 100000 in
set_option maxHeartbeats 4000000 in
theorem choose_any (cap a b N : Nat) (d : Array Int) (w : World) (hR : Rw hd tl blk off w d) (hN : d.size = N) (hl : a + 12 < b) (hb : b ≤ N) (hsz : N ≤ 1000000) :
    Calls Try.prog 62 #[.slice (some ⟨blk, off, none⟩) N cap, .int .i64 (a : Int), .int .i64 (b : Int)] w (Picks hd tl blk off a b d w) := by
  obtain ⟨W0, hW0⟩ : ∃ W0, w.alloc (.cells #[.int .i64 0] 3) = W0 := ⟨_, rfl⟩
  have hb0 : Below w.heap.size w W0 := hW0 ▸ (Below.refl _ w).alloc (Nat.le_refl _) _
  have hB0 : Bk w.heap.size 0 W0 W0 := Bk.refl (hW0 ▸ heap_alloc_new w _)
  have hR0 : Rw hd tl blk off W0 d := hR.below hb0
  have hne : blk ≠ w.heap.size := by have := hR.lt; omega
  have HPT : Hid (∀ s w', Bk w.heap.size s W0 w' → Pt hd tl blk off d w w') := Lib.hid fun s w' h => Bk.pt hb0 h hR (Nat.le_refl _)
  have KM : Hid (∀ (a b c s : Nat) (w' : World), Bk w.heap.size s W0 w' → a < N → b < N → c < N → s ≤ 900 → Calls Try.prog 74 #[.slice (some ⟨blk, off, none⟩) N cap, .int .i64 (a : Int), .int .i64 (b : Int), .int .i64 (c : Int), .pointer (some ⟨w.heap.size, 0, none⟩)] w' (One3 a b c w.heap.size s w')) :=
    Lib.hid fun a b c s w' h h1 h2 h3 h4 => median_any cap a b c w.heap.size s N d w' (h.row hR0 hne) hN (Bk.refl h.own) hne h1 h2 h3 h4 hsz
  have KA : Hid (∀ (a s : Nat) (w' : World), Bk w.heap.size s W0 w' → 1 ≤ a → a + 1 < N → s ≤ 900 → Calls Try.prog 73 #[.slice (some ⟨blk, off, none⟩) N cap, .int .i64 (a : Int), .pointer (some ⟨w.heap.size, 0, none⟩)] w' (One3 (a - 1) a (a + 1) w.heap.size s w')) :=
    Lib.hid fun a s w' h h1 h2 h4 => adj_any cap a w.heap.size s N d w' (h.row hR0 hne) hN (Bk.refl h.own) hne h1 h2 h4 hsz
  have HB0 := Lib.hid hB0; clear hB0 hb0 hR0 hne hR hN
  have HW0 := Lib.hid hW0; clear hW0
  obtain ⟨l, hl'⟩ : ∃ l, l = b - a := ⟨_, rfl⟩
  obtain ⟨q, hq⟩ : ∃ q, q = l / 4 := ⟨_, rfl⟩
  obtain ⟨i, hi⟩ : ∃ i, i = a + q := ⟨_, rfl⟩
  obtain ⟨j, hj⟩ : ∃ j, j = a + q * 2 := ⟨_, rfl⟩
  obtain ⟨k, hk⟩ : ∃ k, k = a + q * 3 := ⟨_, rfl⟩
  have hl12 : 12 < l := by omega
  have hi1 : a + 1 ≤ i ∧ i + 1 < b := by omega
  have hj1 : a + 1 ≤ j ∧ j + 1 < b := by omega
  have hk1 : a + 1 ≤ k ∧ k + 1 < b := by omega
  have e0 : (b : Int) - (a : Int) = (l : Int) := by omega
  have e1 : (l : Int) / 4 = (q : Int) := by omega
  have e2 : (a : Int) + (q : Int) = (i : Int) := by omega
  have e3 : (a : Int) + (q : Int) * 2 = (j : Int) := by omega
  have e4 : (a : Int) + (q : Int) * 3 = (k : Int) := by omega
  have h8 : (8 : Int) ≤ (l : Int) := by omega
  have hl6 : l ≤ 1000000 := by omega
  have hq6 : q ≤ 1000000 := by omega
  obtain ⟨hi1, hi2⟩ := hi1
  obtain ⟨hj1, hj2⟩ := hj1
  obtain ⟨hk1, hk2⟩ := hk1
  clear hl' hq hi hj hk hl
  go_enter Try.func62, Try.ntmps62
  go_upto_if 32 with (fail)
  rw [HW0.out]
  clear e0 e1 e2 e3 e4
  go_cut [10, 11, 12] (fun _ vj _ wx => ∃ p t : Nat, vj = .int .i64 (p : Int) ∧ (a ≤ p ∧ p < b ∧ t ≤ 12) ∧ Bk w.heap.size t W0 wx)
  case first =>
    by_cases h50 : 50 ≤ l
    · have h50Z : (50 : Int) ≤ (l : Int) := by omega
      go_wp2_with fail
      with_reducible refine (KA.out i 0 W0 HB0.out (by omega) (by omega) (by omega)).mono ?_
      rintro e w1 ⟨x1, t1, rfl, h1, ht1, hb1⟩
      have HB1 := Lib.hid (HB0.out.trans hb1); clear hb1
      have hx1 : a ≤ x1 := by omega
      have hx1' : x1 < b := by omega
      clear h1
      go_wp2_with fail
      with_reducible refine (KA.out j t1 w1 HB1.out (by omega) (by omega) (by omega)).mono ?_
      rintro e w2 ⟨x2, t2, rfl, h2, ht2, hb2⟩
      have HB2 := Lib.hid (HB1.out.trans hb2); clear hb2
      have hx2 : a ≤ x2 := by omega
      have hx2' : x2 < b := by omega
      clear h2
      go_wp2_with fail
      with_reducible refine (KA.out k t2 w2 HB2.out (by omega) (by omega) (by omega)).mono ?_
      rintro e w3 ⟨x3, t3, rfl, h3, ht3, hb3⟩
      have HB3 := Lib.hid (HB2.out.trans hb3); clear hb3
      have hx3 : a ≤ x3 := by omega
      have hx3' : x3 < b := by omega
      clear h3
      go_wp2_with fail
      with_reducible refine (KM.out x1 x2 x3 t3 w3 HB3.out (by omega) (by omega) (by omega) (by omega)).mono ?_
      rintro e w4 ⟨x4, t4, rfl, h4, ht4, hb4⟩
      have HB4 := Lib.hid (HB3.out.trans hb4); clear hb4
      have H4 := Lib.hid h4; clear h4
      go_wp2_with fail
      go_meet
      case rel => exact ⟨x4, t4, rfl, ⟨by have := H4.out; omega, by have := H4.out; omega, by omega⟩, HB4.out⟩
    · have h50B : decide ((50 : Int) ≤ (l : Int)) = false := by simp; omega
      go_wp2_with fail
      with_reducible refine (KM.out i j k 0 W0 HB0.out (by omega) (by omega) (by omega) (by omega)).mono ?_
      rintro e w4 ⟨x4, t4, rfl, h4, ht4, hb4⟩
      have HB4 := Lib.hid (HB0.out.trans hb4); clear hb4
      have H4 := Lib.hid h4; clear h4
      go_wp2_with fail
      go_meet
      case rel => exact ⟨x4, t4, rfl, ⟨by have := H4.out; omega, by have := H4.out; omega, by omega⟩, HB4.out⟩
  case rest =>
    obtain ⟨p, t, rfl, ⟨hp1, hp2, ht⟩, hbx⟩ := hcut
    have hc := hbx.cell
    have HBX := Lib.hid hbx; clear hbx
    clear KA KM
    by_cases ht0 : t = 0
    · have hb0 : ((t : Int) == 0) = true := by simp; omega
      clear ht0
      go_wp2
      go_ret2
      exact ⟨p, 1, rfl, hp1, hp2, by omega, HPT.out _ _ HBX.out⟩
    · have hb0 : ((t : Int) == 0) = false := by simp; omega
      clear ht0
      by_cases ht12 : t = 12
      · have hb12 : ((t : Int) == 12) = true := by simp; omega
        clear ht12
        go_wp2
        go_ret2
        exact ⟨p, 2, rfl, hp1, hp2, by omega, HPT.out _ _ HBX.out⟩
      · have hb12 : ((t : Int) == 12) = false := by simp; omega
        clear ht12
        go_wp2
        go_ret2
        exact ⟨p, 0, rfl, hp1, hp2, by omega, HPT.out _ _ HBX.out⟩
end Go.Proofs.Ythldjdkjgiebaaa.S64
