/-
  The walk of ShieldHolds' loop. By an AI agent.
-/
import Derived.Test.YtjmgjgohllihdaaDoorShHolds
set_option linter.unusedSimpArgs false
set_option linter.unusedVariables false
namespace Go.Proofs.YtjmgjgohllihdaaDoor
open Go.RowKit Go.Maps
open Mm (Mem Blk)
open Ac (A)
set_option maxRecDepth 100000 in
set_option maxHeartbeats 8000000 in
theorem sholds_in (d th : Nat) (n₀ : Nat) (k₀ s₀ : Int) (rs : List Nat) (ad : Option Addr) (cap : Nat) (bs : List Bool) (ad2 : Option Addr) (cap2 : Nat) (w : World) (hbd : Bd w) (hr : Dk.right (d : Int) (th : Int) (n₀ : Int) k₀ = true) (hne : 1 ≤ rs.length) (hl : rs.length ≤ 40) (hl2 : bs.length ≤ 60) (hc1 : rs.length ≤ cap) (hc2 : cap ≤ maxLen) (hd1 : bs.length ≤ cap2) (hd2 : cap2 ≤ maxLen) (hw : ∀ x ∈ rs, x < 18446744073709551616) (hs : Sl .u64 w w.heap.size ad (Kr.up rs)) (hs2 : Bl w w.heap.size ad2 bs) :
    Calls Tryd.prog 4 #[.agg (siteC (d : Int) (th : Int) (n₀ : Int) k₀ s₀), .slice ad rs.length cap, .slice ad2 bs.length cap2] w (Gives (.bool true) w) := by
  have hrp := right_parts hr
  have hr1 : Dk.right 1 (th : Int) (n₀ : Int) k₀ = true := by
    unfold Dk.right at hr ⊢
    simp at hr ⊢
    exact ⟨⟨⟨hr.1.1.1.2, hr.1.1.2⟩, hr.1.2⟩, hr.2⟩
  obtain ⟨c, hc⟩ : ∃ c, c = 3 + 2 * th := ⟨_, rfl⟩
  obtain ⟨sz, hsz⟩ : ∃ sz, sz = 2 + 2 * n₀ := ⟨_, rfl⟩
  unfold maxLen at hc2 hd2
  obtain ⟨b0, off0, had, hcell0⟩ := sl_at hs (show 0 < rs.length by omega)
  subst had
  rw [Nat.add_zero] at hcell0
  have HV := Lib.hid (Sh.getD_lt hw)
  obtain ⟨V0, hV0⟩ : ∃ V0, V0 = rs.getD 0 0 := ⟨_, rfl⟩
  have hV0l : V0 < 18446744073709551616 := by rw [hV0]; exact HV.out 0
  rw [← hV0] at hcell0
  have HBZ := Lib.hid (World.block_lt_of_cell? w _ hcell0)
  have HX := Lib.hid (fun W (hb : Below w.heap.size w W) => (hb.cell (p := ⟨b0, off0, none⟩) (World.block_lt_of_cell? w _ hcell0)).trans hcell0)
  have HVL := Lib.hid hV0l
  clear hV0 hcell0
  obtain ⟨W0, hW0⟩ : ∃ W0, W0 = sboxed w (d : Int) (th : Int) (n₀ : Int) k₀ s₀ := ⟨_, rfl⟩
  have HB0 := Lib.hid (show Below w.heap.size w W0 by rw [hW0]; exact sboxed_below w _ _ _ _ _)
  have HSI := Lib.hid (show Aside (fun _ => False) W0 w.heap.size (.cells (siteC (d : Int) (th : Int) (n₀ : Int) k₀ s₀) 24 (0, 0)) by rw [hW0]; exact site_new w _ _ _ _ _ (fun _ => False) (fun _ e => e.elim))
  have HBD := Lib.hid (fun W (hb : Below w.heap.size w W) => hbd.below hb)
  have AW := Lib.hid (fun W (hb : Below w.heap.size w W) => awake_any W (hbd.below hb))
  have KR := Lib.hid (by have := drright_any (d : Int) (th : Int) (n₀ : Int) k₀ s₀ W0 (by omega); rw [hr] at this; exact this)
  have KNA : Hid (∀ W : World, Calls Tryd.prog 12 #[.int .i64 200] W fun e w' => e = .returned (.pointer (some ⟨W.heap.size + 1, 0, none⟩)) ∧ ∃ F, Ax W.heap.size w' (W.heap.size + 1) ⟨200, 0, 0, []⟩ F ∧ Below W.heap.size W w' ∧ W.heap.size + 2 = w'.heap.size) := Lib.hid (fun W => new_ok 200 (by omega) (by omega) W)
  have KSZ : ∀ W, Below w.heap.size w W → Calls Tryd.prog 14 #[.int .i64 (n₀ : Int)] W (Same (.int .i64 (sz : Int)) W) := fun W hb => by
    have := dsize_any (n₀ : Int) W (hbd.below hb)
    rwa [Dk.size_in (by omega) (by omega), show 2 + 2 * (n₀ : Int) = (sz : Int) by omega] at this
  have KTC : ∀ W, Below w.heap.size w W → Calls Tryd.prog 18 #[.int .i64 (th : Int)] W (Same (.int .i64 (c : Int)) W) := fun W hb => by
    have := dbox_any (th : Int) W (hbd.below hb)
    rwa [Dk.box_in (by omega) (by omega), show 3 + 2 * (th : Int) = (c : Int) by omega] at this
  have KGN : ∀ W, Below w.heap.size w W → Calls Tryd.prog 6 #[.agg #[.int .u64 1, .int .i64 (th : Int), .int .i64 (n₀ : Int), .int .i64 k₀, .int .u64 s₀], .int .u64 2, .int .i64 0, .int .u64 (V0 : Int)] W (Snew (Sh.new V0) 1 (c : Int) 2 0 W) := fun W hb => by
    have := snew_yes 1 (th : Int) (n₀ : Int) k₀ s₀ 2 0 V0 W (hbd.below hb) hr1 (by omega) hV0l
    rwa [Dk.box_in (by omega) (by omega), show 3 + 2 * (th : Int) = (c : Int) by omega] at this
  have HSZ := Lib.hid KSZ; clear KSZ
  have HTC := Lib.hid KTC; clear KTC
  have HGN := Lib.hid KGN; clear KGN
  have HC := Lib.hid (show c < sz ∧ c ≤ 1000 ∧ 1 ≤ sz ∧ sz ≤ 199 by omega)
  have HS := Lib.hid hs
  have HS2 := Lib.hid hs2
  clear hbd hr hrp hr1 hs hs2 hc hsz hw hV0l
  obtain ⟨m, hm⟩ : ∃ m, m = rs.length := ⟨_, rfl⟩
  obtain ⟨m2, hm2⟩ : ∃ m2, m2 = bs.length := ⟨_, rfl⟩
  rw [← hm] at hl hc1 hne ⊢
  rw [← hm2] at hl2 hd1 ⊢
  have HM := Lib.hid hm
  have HM2 := Lib.hid hm2
  clear hm hm2
  have a0 : ((m : Int) == 0) = false := by simp; omega
  have a1 : ¬ (40 : Int) < (m : Int) := by omega
  have a2 : ¬ (60 : Int) < (m2 : Int) := by omega
  have a3 : (0 : Int) < (m : Int) := by omega
  have a4 : 0 < m := by omega
  go_enter Tryd.func4, Tryd.ntmps4
  go_wp2_with fail
  rw [show w.alloc (.cells #[.int .u64 (d : Int), .int .i64 (th : Int), .int .i64 (n₀ : Int), .int .i64 k₀, .int .u64 s₀] 24) = W0 from hW0.symm]
  clear hW0
  with_reducible refine KR.out.mono ?_
  rintro e w1 ⟨rfl, hb1⟩
  have HB1 := Lib.hid (HB0.out.trans (hb1.mono HB0.out.size))
  have HI1 := Lib.hid (HSI.out.below hb1)
  clear hb1 KR HSI HB0
  go_wp2_with fail
  with_reducible refine (KNA.out _).mono ?_
  rintro e w2 ⟨rfl, F, hA, hb2, hs2⟩
  obtain ⟨C, hC⟩ : ∃ C, C = w1.heap.size := ⟨_, rfl⟩
  rw [← hC] at hA hb2 hs2 ⊢
  have HI2 := Lib.hid (HI1.out.below (hC ▸ hb2))
  have HZ := Lib.hid (show w.heap.size < C by rw [hC]; exact HI1.out.lt)
  have HB2 := Lib.hid (HB1.out.trans (hb2.mono (by have := HZ.out; omega)))
  have HA2 := Lib.hid hA
  have HC2 := Lib.hid (show C ≤ w2.heap.size by omega)
  have d2 := HI2.out.cell 2 rfl
  have K3 := Lib.hid (HSZ.out _ HB2.out)
  have K4 := Lib.hid (alloc_ok hA HC2.out sz HC.out.2.2.1 (by show sz ≤ 200 - 0; have := HC.out; omega) (by simp))
  clear hC hA hb2 hs2 HI1 HB1 KNA HSZ
  go_wp2_with fail
  with_reducible refine K3.out.mono ?_
  rintro e w3 ⟨rfl, rfl⟩
  go_wp2_with fail
  with_reducible refine K4.out.mono ?_
  rintro e w3 ⟨rfl, F3, hA3, ht3⟩
  have hA3 : Ax C w3 (C + 1) ⟨200, 1, 0, [(1, List.replicate sz 0)]⟩ F3 := hA3
  have hb3 : Below C w2 w3 := ht3.below (fun k hk => (HA2.out.foot hk).1) HC2.out
  have HA3 := Lib.hid hA3
  have HC3 := Lib.hid (show C ≤ w3.heap.size by have := hb3.size; have := HC2.out; omega)
  have HB3 := Lib.hid (HB2.out.trans (hb3.mono (by have := HZ.out; omega)))
  have HI3 := Lib.hid ((hb3.block w.heap.size HZ.out).trans HI2.out.at')
  have K5 := alloc_ok hA3 HC3.out 1 (by omega) (by have := HC.out; simp [Mm.used]; omega) (by simp)
  rw [show ((1 : Nat) : Int) = 1 from rfl] at K5
  have K5 := Lib.hid K5
  clear hA3 hb3 ht3 K3 K4 HI2 HB2 HA2 HC2 d2
  go_wp2_with fail
  with_reducible refine K5.out.mono ?_
  rintro e w4 ⟨rfl, F4, hA4, ht4⟩
  have hA4 : Ax C w4 (C + 1) (Mg (List.replicate sz 0) 0) F4 := hA4
  have hb4 : Below C w3 w4 := ht4.below (fun k hk => (HA3.out.foot hk).1) HC3.out
  have hi4 := (hb4.block w.heap.size HZ.out).trans HI3.out
  have f0 : w4.frozen? ⟨w.heap.size, 0, none⟩ = false := by simp [World.frozen?, hi4]
  have e0 : w4.cell? ⟨w.heap.size, 0, none⟩ = some (.int .u64 (d : Int)) := by simp [World.cell?, hi4]
  obtain ⟨W5, hW5⟩ : ∃ W5, W5 = w4.setCell ⟨w.heap.size, 0, none⟩ (.int .u64 1) := ⟨_, rfl⟩
  have hi5 : W5.heap[w.heap.size]? = some (.cells (siteC 1 (th : Int) (n₀ : Int) k₀ s₀) 24 (0, 0)) := by
    rw [hW5, heap_setc hi4 _ _]; rfl
  have hA5 : Ax C W5 (C + 1) (Mg (List.replicate sz 0) 0) F4 := by
    rw [hW5]
    refine hA4.keep fun k hk => Below.heap_setCell _ _ _ _ (fun e => ?_)
    have := (hA4.foot hk).1
    have := HZ.out
    simp only at e
    omega
  have hB5 : Below w.heap.size w W5 := by
    rw [hW5]
    exact (HB3.out.trans (hb4.mono (by have := HZ.out; omega))).setCell (p := ⟨w.heap.size, 0, none⟩) (Nat.le_refl _) _
  have hC5 : C ≤ W5.heap.size := by
    have := hb4.size
    have := HC3.out
    rw [hW5]; simp [World.setCell]; omega
  have x4 := HX.out _ (HB3.out.trans (hb4.mono (by have := HZ.out; omega)))
  have z1 : ¬ b0 = w.heap.size := by have h := HBZ.out; omega
  have z2 : ¬ w.heap.size = b0 := by have h := HBZ.out; omega
  have x5 : (w4.setCell ⟨w.heap.size, 0, none⟩ (.int .u64 1)).cell? ⟨b0, off0, none⟩ = some (.int .u64 (V0 : Int)) := by have := HX.out _ hB5; rwa [hW5] at this
  have K6 := Lib.hid (show Calls Tryd.prog 15 #[.pointer (some ⟨C + 1, 0, none⟩), .agg #[.int .i64 2, .int .u64 2, .int .i64 0, .int .u64 0, .int .u64 (V0 : Int)]] W5 (Turns (.int .u64 0) C (C + 1) (Mg (List.replicate sz 0) V0) F4 W5) from mg_store2 (List.replicate sz 0) 0 V0 C W5 (C + 1) F4 hA5 hC5)
  have HI5 := Lib.hid hi5
  have HA5 := Lib.hid hA5
  have HB5 := Lib.hid hB5
  have HC5 := Lib.hid hC5
  clear hA4 hb4 ht4 hi4 hi5 hA5 hB5 hC5 K5 HA3 HC3 HB3 HI3
  generalize hz : w.heap.size = z at e0 f0 HI5 HZ hW5 x5 z1 z2 ⊢
  go_wp2_with fail
  rw [← hW5]
  clear hW5 f0 x5 x4 z1 z2
  with_reducible refine K6.out.mono ?_
  rintro e w6 ⟨rfl, F6, hA6, ht6⟩
  have hb6 : Below C W5 w6 := ht6.below (fun k hk => (HA5.out.foot hk).1) HC5.out
  have hi6 := (hb6.block z HZ.out).trans HI5.out
  have hB6 : Below w.heap.size w w6 := HB5.out.trans (hb6.mono (by have := HZ.out; omega))
  have hB6d : Below w.heap.size w w6.drew := hB6.drew
  have x6 := HX.out _ hB6d
  have hi6d : w6.drew.heap[z]? = some (.cells (siteC 1 (th : Int) (n₀ : Int) k₀ s₀) 24 (0, 0)) := hi6
  have y0 : w6.drew.cell? ⟨z, 0, none⟩ = some (.int .u64 1) := by simp [World.cell?, hi6d]
  have y1 : w6.drew.cell? ⟨z, 1, none⟩ = some (.int .i64 (th : Int)) := by simp [World.cell?, hi6d]
  have y2 : w6.drew.cell? ⟨z, 2, none⟩ = some (.int .i64 (n₀ : Int)) := by simp [World.cell?, hi6d]
  have y3 : w6.drew.cell? ⟨z, 3, none⟩ = some (.int .i64 k₀) := by simp [World.cell?, hi6d]
  have y4 : w6.drew.cell? ⟨z, 4, none⟩ = some (.int .u64 s₀) := by simp [World.cell?, hi6d]
  have K7 := Lib.hid (HGN.out _ hB6d)
  have HI6 := Lib.hid hi6
  have HA6 := Lib.hid hA6
  have HB6 := Lib.hid hB6
  have HC6 := Lib.hid (show C ≤ w6.heap.size by have := hb6.size; have := HC5.out; omega)
  clear hA6 ht6 hb6 hi6 hi6d hB6 hB6d e0 K6 HI5 HA5 HB5 HC5 HGN
  go_wp2_with fail
  refine wp_region_held_drew (S := fun w' => (w'.cell? ⟨z, 0, none⟩ = some (.int .u64 1) ∧ w'.cell? ⟨z, 1, none⟩ = some (.int .i64 (th : Int)) ∧ w'.cell? ⟨z, 2, none⟩ = some (.int .i64 (n₀ : Int)) ∧ w'.cell? ⟨z, 3, none⟩ = some (.int .i64 k₀) ∧ w'.cell? ⟨z, 4, none⟩ = some (.int .u64 s₀)) ∧ w'.cell? ⟨b0, off0, none⟩ = some (.int .u64 (V0 : Int))) (by kernel_rfl) ⟨⟨y0, y1, y2, y3, y4⟩, x6⟩ (fun hS => ?_)
  refine wpAnyH_take (i := 0) (v := .agg #[.int .u64 1, .int .i64 (th : Int), .int .i64 (n₀ : Int), .int .i64 k₀, .int .u64 s₀]) rfl (by kernel_rfl) (by kernel_rfl) (by kernel_rfl) (fun _ _ _ h => h) (Or.inl ⟨by kernel_rfl, fun w hS => by obtain ⟨⟨s1, s2, s3, s4, s5⟩, s6⟩ := hS; go_simp⟩) hS ?_
  refine wpAnyH_take (i := 1) (v := .slice (some ⟨b0, off0, none⟩) m cap) rfl (by kernel_rfl) (by kernel_rfl) (by kernel_rfl) (fun _ _ _ h => h) (Or.inl ⟨by kernel_rfl, fun w hS => by kernel_rfl⟩) hS ?_
  refine wpAnyH_take (i := 2) (v := .pointer (some ⟨b0, off0, none⟩)) rfl (by kernel_rfl) (by kernel_rfl) (by kernel_rfl) (fun _ _ _ h => h) (Or.inl ⟨by kernel_rfl, fun w hS => by go_simp⟩) hS ?_
  refine wpAnyH_take (i := 3) (v := .int .u64 (V0 : Int)) rfl (by kernel_rfl) (by kernel_rfl) (by kernel_rfl) (fun _ _ _ h => h) (Or.inl ⟨by kernel_rfl, fun w hS => by obtain ⟨⟨s1, s2, s3, s4, s5⟩, s6⟩ := hS; go_simp⟩) hS ?_
  refine wpAnyH_ready (rs := [4]) (by kernel_rfl) (by simp) ?_
  refine AllReadyH.cons rfl (fun K hK => ?_) AllReadyH.nil
  go_simp
  go_at_call 6
  refine K7.out.mono ?_
  rintro e w7 ⟨q, rfl, hq, hg7, hb7⟩
  have hb67 : Below w6.heap.size w6 w7 := (Below.refl _ w6).drew.trans (hb7.mono (Nat.le_refl _))
  have HB7 := Lib.hid (HB6.out.trans (hb67.mono HB6.out.size))
  have HI7 := Lib.hid ((hb67.block z (by have := HZ.out; have := HC6.out; omega)).trans HI6.out)
  have HA7 := Lib.hid (HA6.out.below hb67 (Nat.le_refl _))
  have HQ := Lib.hid (show C ≤ q by have : w6.heap.size ≤ q := hq; have := HC6.out; omega)
  have HNQ := Lib.hid (show ¬ F6 q from fun e => by have := (HA6.out.foot e).2; have : w6.heap.size ≤ q := hq; omega)
  have HC7 := Lib.hid (show C ≤ w7.heap.size by have := hb67.size; have := HC6.out; omega)
  have HG7 := Lib.hid hg7
  have u0 : w7.cell? ⟨z, 0, none⟩ = some (.int .u64 1) := by simp [World.cell?, HI7.out]
  have u1 : w7.cell? ⟨z, 1, none⟩ = some (.int .i64 (th : Int)) := by simp [World.cell?, HI7.out]
  have u2 : w7.cell? ⟨z, 2, none⟩ = some (.int .i64 (n₀ : Int)) := by simp [World.cell?, HI7.out]
  have u3 : w7.cell? ⟨z, 3, none⟩ = some (.int .i64 k₀) := by simp [World.cell?, HI7.out]
  have u4 : w7.cell? ⟨z, 4, none⟩ = some (.int .u64 s₀) := by simp [World.cell?, HI7.out]
  refine hK.out _ _ ⟨⟨u0, u1, u2, u3, u4⟩, HX.out _ HB7.out⟩ (fun hS => ?_)
  clear hK K hq hg7 hb7 hb67 u0 u1 u2 u3 u4
  refine wpAnyH_take (i := 5) (v := .pointer (some ⟨q, 0, none⟩)) rfl (by kernel_rfl) (by kernel_rfl) (by kernel_rfl) (fun _ _ _ h => h) (Or.inl ⟨by kernel_rfl, fun w hS => by kernel_rfl⟩) hS ?_
  refine wpAnyH_done (by kernel_rfl) ?_ _
  clear hS y0 y1 y2 y3 y4 x6 K7 HI6 HA6 HB6 HC6
  have HS5 := Lib.hid (HS.out.below HB7.out)
  have HS6 := Lib.hid (HS2.out.below HB7.out)
  have HWZ := Lib.hid hz
  clear hz HS HS2
  go_wp2
  go_loopw [9, 10] (fun a i wr => ∃ (at' n V : Nat) (s : Sh.S) (ws : List Int) (F : Nat → Prop), a = .int .i64 (at' : Int) ∧ i = .int .i64 (n : Int) ∧ n ≤ m2 ∧ at' ≤ m ∧ V < 18446744073709551616 ∧ Sh.Inv V0 ws s c ∧ Ax C wr (C + 1) (Mg ws V) F ∧ Sb wr q s 1 (c : Int) 2 0 ∧ ¬ F q ∧ Below C w7 wr) (fun _ i _ => m2 - (intOf i).toNat)
  case atStart => exact ⟨1, 0, V0, Sh.new V0, _, F6, rfl, rfl, by omega, by omega, HVL.out, Sh.Inv.start HC.out.1 HVL.out, HA7.out, HG7.out, HNQ.out, Below.refl _ _⟩
  case round =>
    clear HA7 HG7 HNQ
    obtain ⟨at', n, V, s, ws, F, rfl, rfl, hn, hat, hV, hinv, hA, hG, hnq, hB⟩ := hrel
    by_cases hlt : n < m2
    · have hltZ : (n : Int) < (m2 : Int) := by omega
      obtain ⟨b2, off2, had2, hcell2⟩ := bl_at (HS6.out.below (hB.mono (by have := HZ.out; have := HWZ.out; omega))) (show n < bs.length by rw [← HM2.out]; exact hlt)
      have hCr : C ≤ wr.heap.size := by have := HC7.out; have := hB.size; omega
      subst had2
      generalize bs.getD n false = b at hcell2
      by_cases hgo : b = true ∧ at' < m
      · obtain ⟨rfl, hatm⟩ := hgo
        have hatZ : (at' : Int) < (m : Int) := by omega
        obtain ⟨b1, off1, had1, hcell1⟩ := sl_at (HS5.out.below (hB.mono (by have := HZ.out; have := HWZ.out; omega))) (show at' < rs.length by rw [← HM.out]; exact hatm)
        cases had1
        have HVA := Lib.hid (HV.out at')
        generalize rs.getD at' 0 = v at hcell1 HVA
        have KD := Lib.hid (show Calls Tryd.prog 15 #[.pointer (some ⟨C + 1, 0, none⟩), .agg #[.int .i64 2, .int .u64 2, .int .i64 0, .int .u64 0, .int .u64 (v : Int)]] wr (Turns (.int .u64 0) C (C + 1) (Mg ws v) F wr) from mg_store2 ws V v C wr (C + 1) F hA hCr)
        have HINV := Lib.hid hinv
        have HA := Lib.hid hA
        have HG := Lib.hid hG
        have HNQ := Lib.hid hnq
        have HB := Lib.hid hB
        have HCR := Lib.hid hCr
        clear hinv hA hG hnq hB hCr hV
        go_wp2_with fail
        with_reducible refine KD.out.mono ?_
        rintro e w5 ⟨rfl, F5, hA5, ht5⟩
        have HA6 := Lib.hid hA5
        have HG6 := Lib.hid (HG.out.keep (ht5.block q HG.out.lt HNQ.out))
        have HNQ6 := Lib.hid (show ¬ F5 q from fun e => (ht5.foot q e).elim HNQ.out (fun e2 => by have := HG.out.lt; omega))
        have HB6 := Lib.hid (HB.out.trans (ht5.below (fun k hk => (HA.out.foot hk).1) HCR.out))
        clear hA5 ht5 KD HA HG HNQ HB
        go_wp2
        go_roundw
        case rel => exact ⟨at' + 1, n + 1, v, s, _, F5, by go_num, by go_num, by omega, by omega, HVA.out, HINV.out, HA6.out, HG6.out, HNQ6.out, HB6.out⟩
        case measure => simp [intOf]; omega
      · have hcase : b = false ∨ (b = true ∧ ¬ at' < m) := by
          cases b with
          | false => exact .inl rfl
          | true => exact .inr ⟨rfl, fun e => hgo ⟨rfl, e⟩⟩
        clear hgo
        have KG := salone (q := q) (c := c) hA hG HQ.out hnq hCr hinv.p hinv.lt hV hinv.len HC.out.2.1
        have hBw : Below w.heap.size w wr := HB7.out.trans (hB.mono (by have := HZ.out; have := HWZ.out; omega))
        have HBW := Lib.hid hBw
        have HINV := Lib.hid hinv
        have HB := Lib.hid hB
        have HCR := Lib.hid hCr
        have HVV := Lib.hid hV
        clear hA hG hnq hB hCr hBw hinv hV
        unfold Did1 at KG
        rcases (show Sh.rem s V = 0 ∨ Sh.rem s V = 1 ∨ (Sh.rem s V ≠ 0 ∧ Sh.rem s V ≠ 1) by omega) with hrem | hrem | hrem
        · obtain ⟨hs0, hf0⟩ := HINV.out.none hrem
          have KG : Calls Tryd.prog 16 #[.pointer (some ⟨C + 1, 0, none⟩), rv q, .int .i64 1] wr fun e w' => e = .returned (.tuple #[.int .i64 0, .bool true]) ∧ ∃ F', Ax C w' (C + 1) (Mg ws V) F' ∧ Sb w' q ⟨3, V0⟩ 1 (c : Int) 2 0 ∧ ¬ F' q ∧ Below C wr w' := KG.mono (fun e w' h => by
            obtain ⟨h1, F', h2, h3, h4, h5⟩ := h
            rw [hrem] at h1 h2 h3
            have h3 : Sb w' q s 1 (c : Int) 2 0 := h3
            rw [hs0] at h3
            exact ⟨h1, F', h2, h3, h4, h5⟩)
          have KG := Lib.hid KG
          have HFR := Lib.hid hf0
          have hx := List.getElem?_eq_getElem HINV.out.len
          generalize ws[c]'(HINV.out.len) = x at hx
          have HCC := Lib.hid hx
          clear hs0 hf0 hrem hx HINV
          rcases hcase with rfl | ⟨rfl, hatm⟩
          all_goals
            try have hatZ : ¬ (at' : Int) < (m : Int) := by omega
            go_wp2_with fail
            with_reducible refine KG.out.mono ?_
            rintro e w5 ⟨rfl, F5, hA5, hG5, hnq5, hb5⟩
            have KR := Lib.hid (show Calls Tryd.prog 10 #[.pointer (some ⟨q, 0, none⟩)] w5 (Same (.tuple #[.int .u64 (V0 : Int), .bool true]) w5) from sres_any hG5)
            have KL := Lib.hid (show Calls Tryd.prog 17 #[.pointer (some ⟨C + 1, 0, none⟩), .int .u64 2, .int .i64 0] w5 (Same (.tuple #[.int .u64 (V : Int), .int .i64 0]) w5) from load_ok (b := 2) hA5 (by omega) (mg_get2 ws V) 0 rfl)
            have KL2 := Lib.hid (show Calls Tryd.prog 17 #[.pointer (some ⟨C + 1, 0, none⟩), .int .u64 1, .int .i64 (c : Int)] w5 (Same (.tuple #[.int .u64 x, .int .i64 0]) w5) from load_ok (b := 1) hA5 (by omega) (mg_get1 ws V) c HCC.out)
            have hb5w : Below w.heap.size w w5 := HBW.out.trans (hb5.mono (by have := HZ.out; have := HWZ.out; omega))
            have KT := Lib.hid (HTC.out _ hb5w)
            have HB5w := Lib.hid hb5w
            have HA5 := Lib.hid hA5
            have x5 := HX.out _ hb5w
            have hi6 := ((HB.out.trans hb5).block z HZ.out).trans HI7.out
            have s1 : w5.cell? ⟨z, 1, none⟩ = some (.int .i64 (th : Int)) := by simp [World.cell?, hi6]
            have hC5 : C ≤ w5.heap.size := Nat.le_trans HCR.out hb5.size
            have HC5 := Lib.hid hC5
            have KF : Calls Tryd.prog 19 #[.int .u64 (V0 : Int)] w5 (Gives (.bool (Sh.fr V0)) w5) := freshn V0 w5 HVL.out
            rw [HFR.out] at KF
            have KF := Lib.hid KF
            clear hA5 hG5 hnq5 hb5 KG HB HBW hb5w hi6 HCC hC5
            go_wp2_with fail
            with_reducible refine KR.out.mono ?_
            rintro e w6 ⟨rfl, rfl⟩
            go_wp2_with fail
            with_reducible refine KL.out.mono ?_
            rintro e w6 ⟨rfl, rfl⟩
            go_wp2_with fail
            with_reducible refine KT.out.mono ?_
            rintro e w6 ⟨rfl, rfl⟩
            go_wp2_with fail
            with_reducible refine KL2.out.mono ?_
            rintro e w6 ⟨rfl, rfl⟩
            go_wp2_with fail
            with_reducible refine KF.out.mono ?_
            rintro e w6 ⟨rfl, hb6⟩
            have HA6 := Lib.hid (HA5.out.below hb6 (Nat.le_refl _))
            have HB6 := Lib.hid (HB5w.out.trans (hb6.mono HB5w.out.size))
            have HC6 := Lib.hid (Nat.le_trans HC5.out hb6.size)
            clear hb6 KF HA5 HB5w HC5
            have KFa := Lib.hid (show Calls Tryd.prog 21 #[.pointer (some ⟨C + 1, 0, none⟩)] w6 (Same (.int .i64 0) w6) from faults_any HA6.out)
            have KW := Lib.hid (AW.out _ HB6.out)
            go_wp2_with fail
            with_reducible refine KFa.out.mono ?_
            rintro e w9 ⟨rfl, rfl⟩
            go_wp2_with fail
            with_reducible refine KW.out.mono ?_
            rintro e w9 ⟨rfl, hb9⟩
            have HB9 := Lib.hid (HB6.out.trans (hb9.mono HB6.out.size))
            clear hb9
            go_wp2
            go_ret
            exact ⟨rfl, HB9.out⟩
        · obtain ⟨hce, hg1, hcc, mn, hcm⟩ := HINV.out.ends hrem
          have KG : Calls Tryd.prog 16 #[.pointer (some ⟨C + 1, 0, none⟩), rv q, .int .i64 1] wr fun e w' => e = .returned (.tuple #[.int .i64 1, .bool true]) ∧ ∃ F', Ax C w' (C + 1) (Mg ws V) F' ∧ Sb w' q ⟨3, V⟩ 1 (c : Int) 2 0 ∧ ¬ F' q ∧ Below C wr w' := KG.mono (fun e w' h => by
            obtain ⟨h1, F', h2, h3, h4, h5⟩ := h
            rw [hrem] at h1 h2 h3
            have h2 : Ax C w' (C + 1) (Mg (Sh.cells s V c ws 1) V) F' := h2
            have h3 : Sb w' q (Sh.go s V 1) 1 (c : Int) 2 0 := h3
            rw [hce] at h2
            rw [hg1] at h3
            exact ⟨h1, F', h2, h3, h4, h5⟩)
          have KG := Lib.hid KG
          cases hfr : Sh.fr V with
          | false =>
            have HFR := Lib.hid hfr
            have HCC := Lib.hid hcm
            clear hce hg1 hcc hcm hrem hfr HINV
            rcases hcase with rfl | ⟨rfl, hatm⟩
            all_goals
              try have hatZ : ¬ (at' : Int) < (m : Int) := by omega
              go_wp2_with fail
              with_reducible refine KG.out.mono ?_
              rintro e w5 ⟨rfl, F5, hA5, hG5, hnq5, hb5⟩
              have KR := Lib.hid (show Calls Tryd.prog 10 #[.pointer (some ⟨q, 0, none⟩)] w5 (Same (.tuple #[.int .u64 (V : Int), .bool true]) w5) from sres_any hG5)
              have KL := Lib.hid (show Calls Tryd.prog 17 #[.pointer (some ⟨C + 1, 0, none⟩), .int .u64 2, .int .i64 0] w5 (Same (.tuple #[.int .u64 (V : Int), .int .i64 0]) w5) from load_ok (b := 2) hA5 (by omega) (mg_get2 ws V) 0 rfl)
              have KL2 := Lib.hid (show Calls Tryd.prog 17 #[.pointer (some ⟨C + 1, 0, none⟩), .int .u64 1, .int .i64 (c : Int)] w5 (Same (.tuple #[.int .u64 (mn : Int), .int .i64 0]) w5) from load_ok (b := 1) hA5 (by omega) (mg_get1 ws V) c HCC.out)
              have hb5w : Below w.heap.size w w5 := HBW.out.trans (hb5.mono (by have := HZ.out; have := HWZ.out; omega))
              have KT := Lib.hid (HTC.out _ hb5w)
              have HB5w := Lib.hid hb5w
              have HA5 := Lib.hid hA5
              have x5 := HX.out _ hb5w
              have hi6 := ((HB.out.trans hb5).block z HZ.out).trans HI7.out
              have s1 : w5.cell? ⟨z, 1, none⟩ = some (.int .i64 (th : Int)) := by simp [World.cell?, hi6]
              have hC5 : C ≤ w5.heap.size := Nat.le_trans HCR.out hb5.size
              have HC5 := Lib.hid hC5
              have KF : Calls Tryd.prog 19 #[.int .u64 (V : Int)] w5 (Gives (.bool (Sh.fr V)) w5) := freshn V w5 HVV.out
              rw [HFR.out] at KF
              have KF := Lib.hid KF
              clear hA5 hG5 hnq5 hb5 KG HB HBW hb5w hi6 HCC hC5
              go_wp2_with fail
              with_reducible refine KR.out.mono ?_
              rintro e w6 ⟨rfl, rfl⟩
              go_wp2_with fail
              with_reducible refine KL.out.mono ?_
              rintro e w6 ⟨rfl, rfl⟩
              go_wp2_with fail
              with_reducible refine KT.out.mono ?_
              rintro e w6 ⟨rfl, rfl⟩
              go_wp2_with fail
              with_reducible refine KL2.out.mono ?_
              rintro e w6 ⟨rfl, rfl⟩
              go_wp2_with fail
              with_reducible refine KF.out.mono ?_
              rintro e w6 ⟨rfl, hb6⟩
              have HA6 := Lib.hid (HA5.out.below hb6 (Nat.le_refl _))
              have HB6 := Lib.hid (HB5w.out.trans (hb6.mono HB5w.out.size))
              have HC6 := Lib.hid (Nat.le_trans HC5.out hb6.size)
              clear hb6 KF HA5 HB5w HC5
              have KFa := Lib.hid (show Calls Tryd.prog 21 #[.pointer (some ⟨C + 1, 0, none⟩)] w6 (Same (.int .i64 0) w6) from faults_any HA6.out)
              have KW := Lib.hid (AW.out _ HB6.out)
              go_wp2_with fail
              with_reducible refine KFa.out.mono ?_
              rintro e w9 ⟨rfl, rfl⟩
              go_wp2_with fail
              with_reducible refine KW.out.mono ?_
              rintro e w9 ⟨rfl, hb9⟩
              have HB9 := Lib.hid (HB6.out.trans (hb9.mono HB6.out.size))
              clear hb9
              go_wp2
              go_ret
              exact ⟨rfl, HB9.out⟩
          | true =>
            have HFR := Lib.hid hfr
            have HCC := Lib.hid (hcc hfr)
            clear hce hg1 hcc hcm hrem hfr HINV
            rcases hcase with rfl | ⟨rfl, hatm⟩
            all_goals
              try have hatZ : ¬ (at' : Int) < (m : Int) := by omega
              go_wp2_with fail
              with_reducible refine KG.out.mono ?_
              rintro e w5 ⟨rfl, F5, hA5, hG5, hnq5, hb5⟩
              have KR := Lib.hid (show Calls Tryd.prog 10 #[.pointer (some ⟨q, 0, none⟩)] w5 (Same (.tuple #[.int .u64 (V : Int), .bool true]) w5) from sres_any hG5)
              have KL := Lib.hid (show Calls Tryd.prog 17 #[.pointer (some ⟨C + 1, 0, none⟩), .int .u64 2, .int .i64 0] w5 (Same (.tuple #[.int .u64 (V : Int), .int .i64 0]) w5) from load_ok (b := 2) hA5 (by omega) (mg_get2 ws V) 0 rfl)
              have KL2 := Lib.hid (show Calls Tryd.prog 17 #[.pointer (some ⟨C + 1, 0, none⟩), .int .u64 1, .int .i64 (c : Int)] w5 (Same (.tuple #[.int .u64 ((V / 8 : Nat) : Int), .int .i64 0]) w5) from load_ok (b := 1) hA5 (by omega) (mg_get1 ws V) c HCC.out)
              have hb5w : Below w.heap.size w w5 := HBW.out.trans (hb5.mono (by have := HZ.out; have := HWZ.out; omega))
              have KT := Lib.hid (HTC.out _ hb5w)
              have HB5w := Lib.hid hb5w
              have HA5 := Lib.hid hA5
              have x5 := HX.out _ hb5w
              have hi6 := ((HB.out.trans hb5).block z HZ.out).trans HI7.out
              have s1 : w5.cell? ⟨z, 1, none⟩ = some (.int .i64 (th : Int)) := by simp [World.cell?, hi6]
              have hC5 : C ≤ w5.heap.size := Nat.le_trans HCR.out hb5.size
              have HC5 := Lib.hid hC5
              have KF : Calls Tryd.prog 19 #[.int .u64 (V : Int)] w5 (Gives (.bool (Sh.fr V)) w5) := freshn V w5 HVV.out
              rw [HFR.out] at KF
              have KF := Lib.hid KF
              clear hA5 hG5 hnq5 hb5 KG HB HBW hb5w hi6 HCC hC5
              go_wp2_with fail
              with_reducible refine KR.out.mono ?_
              rintro e w6 ⟨rfl, rfl⟩
              go_wp2_with fail
              with_reducible refine KL.out.mono ?_
              rintro e w6 ⟨rfl, rfl⟩
              go_wp2_with fail
              with_reducible refine KT.out.mono ?_
              rintro e w6 ⟨rfl, rfl⟩
              go_wp2_with fail
              with_reducible refine KL2.out.mono ?_
              rintro e w6 ⟨rfl, rfl⟩
              go_wp2_with fail
              with_reducible refine KF.out.mono ?_
              rintro e w6 ⟨rfl, hb6⟩
              have HA6 := Lib.hid (HA5.out.below hb6 (Nat.le_refl _))
              have HB6 := Lib.hid (HB5w.out.trans (hb6.mono HB5w.out.size))
              have HC6 := Lib.hid (Nat.le_trans HC5.out hb6.size)
              clear hb6 KF HA5 HB5w HC5
              have KB := Lib.hid (blockn V w6 HVV.out)
              go_wp2_with fail
              with_reducible refine KB.out.mono ?_
              rintro e w8 ⟨rfl, hb8⟩
              have HA6 := Lib.hid (HA6.out.below hb8 (Nat.le_refl _))
              have HB6 := Lib.hid (HB6.out.trans (hb8.mono HB6.out.size))
              have HC6 := Lib.hid (Nat.le_trans HC6.out hb8.size)
              clear hb8 KB
              have KFa := Lib.hid (show Calls Tryd.prog 21 #[.pointer (some ⟨C + 1, 0, none⟩)] w8 (Same (.int .i64 0) w8) from faults_any HA6.out)
              have KW := Lib.hid (AW.out _ HB6.out)
              go_wp2_with fail
              with_reducible refine KFa.out.mono ?_
              rintro e w9 ⟨rfl, rfl⟩
              go_wp2_with fail
              with_reducible refine KW.out.mono ?_
              rintro e w9 ⟨rfl, hb9⟩
              have HB9 := Lib.hid (HB6.out.trans (hb9.mono HB6.out.size))
              clear hb9
              go_wp2
              go_ret
              exact ⟨rfl, HB9.out⟩
        · have HI := Lib.hid (HINV.out.goes HVV.out hrem.1 hrem.2)
          have KG : Calls Tryd.prog 16 #[.pointer (some ⟨C + 1, 0, none⟩), rv q, .int .i64 1] wr fun e w' => e = .returned (.tuple #[.int .i64 1, .bool false]) ∧ ∃ F', Ax C w' (C + 1) (Mg (Sh.cells s V c ws 1) V) F' ∧ Sb w' q (Sh.go s V 1) 1 (c : Int) 2 0 ∧ ¬ F' q ∧ Below C wr w' := KG.mono (fun e w' h => by
            obtain ⟨h1, F', h2, h3, h4, h5⟩ := h
            rw [show min 1 (Sh.rem s V) = 1 by omega, decide_eq_false (by omega)] at h1
            rw [show min 1 (Sh.rem s V) = 1 by omega] at h2 h3
            exact ⟨h1, F', h2, h3, h4, h5⟩)
          have KG := Lib.hid KG
          clear hrem HINV
          rcases hcase with rfl | ⟨rfl, hatm⟩
          all_goals
            try have hatZ : ¬ (at' : Int) < (m : Int) := by omega
            go_wp2_with fail
            with_reducible refine KG.out.mono ?_
            rintro e w5 ⟨rfl, F5, hA5, hG5, hnq5, hb5⟩
            have HA6 := Lib.hid hA5
            have HG6 := Lib.hid hG5
            have HNQ6 := Lib.hid hnq5
            have HB6 := Lib.hid (HB.out.trans hb5)
            clear hA5 hG5 hnq5 hb5 KG HB HBW
            go_wp2
            go_roundw
            case rel => exact ⟨at', n + 1, V, _, _, F5, rfl, by go_num, by omega, by omega, HVV.out, HI.out, HA6.out, HG6.out, HNQ6.out, HB6.out⟩
            case measure => simp [intOf]; omega
    · have hBw : Below w.heap.size w wr := HB7.out.trans (hB.mono (by have := HZ.out; have := HWZ.out; omega))
      have KF := Lib.hid (show Calls Tryd.prog 21 #[.pointer (some ⟨C + 1, 0, none⟩)] wr (Same (.int .i64 0) wr) from faults_any hA)
      have KW := Lib.hid (AW.out _ hBw)
      have HBW := Lib.hid hBw
      have hltZ : ¬ (n : Int) < (m2 : Int) := by omega
      clear hA hG hnq hB hBw hinv
      go_wp2_with fail
      with_reducible refine KF.out.mono ?_
      rintro e w6 ⟨rfl, rfl⟩
      go_wp2_with fail
      with_reducible refine KW.out.mono ?_
      rintro e w6 ⟨rfl, hb6⟩
      have HB6 := Lib.hid (HBW.out.trans (hb6.mono HBW.out.size))
      clear hb6
      go_wp2
      go_ret
      exact ⟨rfl, HB6.out⟩
end Go.Proofs.YtjmgjgohllihdaaDoor
