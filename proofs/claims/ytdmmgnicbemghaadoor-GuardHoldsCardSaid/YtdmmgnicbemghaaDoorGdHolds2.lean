/-
  The walk of GuardHolds' loop. By an AI agent.
-/
import Derived.Test.YtdmmgnicbemghaaDoorGdHolds
set_option linter.unusedSimpArgs false
set_option linter.unusedVariables false
namespace Go.Proofs.YtdmmgnicbemghaaDoor
open Go.RowKit Go.Maps
open Mm (Mem Blk)
open Ac (A)
theorem we_zero (R : Nat) : we (R : Int) 0 = .tuple #[.int .u64 (R : Int), .int .i64 0] := rfl
set_option maxRecDepth 100000 in
set_option maxHeartbeats 8000000 in
theorem gholds_in (d th : Nat) (n₀ : Nat) (k₀ s₀ : Int) (rs : List Nat) (ad : Option Addr) (cap : Nat) (bs : List Bool) (ad2 : Option Addr) (cap2 : Nat) (w : World) (hbd : Bd w) (hr : Dk.right (d : Int) (th : Int) (n₀ : Int) k₀ = true) (hl : rs.length ≤ 40) (hl2 : bs.length ≤ 60) (hc1 : rs.length ≤ cap) (hc2 : cap ≤ maxLen) (hd1 : bs.length ≤ cap2) (hd2 : cap2 ≤ maxLen) (hs : Sl .u64 w w.heap.size ad (Kr.up rs)) (hs2 : Bl w w.heap.size ad2 bs) :
    Calls Tryd.prog 4 #[.agg (siteC (d : Int) (th : Int) (n₀ : Int) k₀ s₀), .slice ad rs.length cap, .slice ad2 bs.length cap2] w (Gives (.bool true) w) := by
  have hrp := right_parts hr
  have hr1 : Dk.right 1 (th : Int) (n₀ : Int) k₀ = true := by
    unfold Dk.right at hr ⊢
    simp at hr ⊢
    exact ⟨⟨⟨hr.1.1.1.2, hr.1.1.2⟩, hr.1.2⟩, hr.2⟩
  obtain ⟨c, hc⟩ : ∃ c, c = 2 + 2 * th := ⟨_, rfl⟩
  obtain ⟨sz, hsz⟩ : ∃ sz, sz = 2 + 2 * n₀ := ⟨_, rfl⟩
  unfold maxLen at hc2 hd2
  obtain ⟨W0, hW0⟩ : ∃ W0, W0 = sboxed w (d : Int) (th : Int) (n₀ : Int) k₀ s₀ := ⟨_, rfl⟩
  have HB0 := Lib.hid (show Below w.heap.size w W0 by rw [hW0]; exact sboxed_below w _ _ _ _ _)
  have HSI := Lib.hid (show Aside (fun _ => False) W0 w.heap.size (.cells (siteC (d : Int) (th : Int) (n₀ : Int) k₀ s₀) 24 (0, 0)) by rw [hW0]; exact site_new w _ _ _ _ _ (fun _ => False) (fun _ e => e.elim))
  have HBD := Lib.hid (fun W (hb : Below w.heap.size w W) => hbd.below hb)
  have AW := Lib.hid (fun W (hb : Below w.heap.size w W) => awake_any W (hbd.below hb))
  have KR := Lib.hid (by have := drright_any (d : Int) (th : Int) (n₀ : Int) k₀ s₀ W0 (by omega); rw [hr] at this; exact this)
  have KNA : Hid (∀ W : World, Calls Tryd.prog 12 #[.int .i64 200] W fun e w' => e = .returned (.pointer (some ⟨W.heap.size + 1, 0, none⟩)) ∧ ∃ F, Ax W.heap.size w' (W.heap.size + 1) ⟨200, 0, 0, []⟩ F ∧ Below W.heap.size W w' ∧ W.heap.size + 2 = w'.heap.size) := Lib.hid (fun W => new_ok 200 (by omega) (by omega) W)
  have KSZ : ∀ W, Below w.heap.size w W → Calls Tryd.prog 14 #[.int .i64 (n₀ : Int)] W (Same (.int .i64 (sz : Int)) W) := fun W hb => by
    have := dsize_any (n₀ : Int) W (hbd.below hb)
    rwa [Dk.size_in (by omega) (by omega), show 2 + 2 * (n₀ : Int) = (sz : Int) by omega] at this
  have KTC : ∀ W, Below w.heap.size w W → Calls Tryd.prog 18 #[.int .i64 (th : Int)] W (Same (.int .i64 (c : Int)) W) := fun W hb => by
    have := dtable_any (th : Int) W (hbd.below hb)
    rwa [Dk.tab_in (by omega) (by omega), show 2 + 2 * (th : Int) = (c : Int) by omega] at this
  have KGN : ∀ W, Below w.heap.size w W → Calls Tryd.prog 6 #[.agg #[.int .u64 1, .int .i64 (th : Int), .int .i64 (n₀ : Int), .int .i64 k₀, .int .u64 s₀]] W (Gnew ⟨1, 0⟩ 1 (c : Int) W) := fun W hb => by
    have := gnew_yes 1 (th : Int) (n₀ : Int) k₀ s₀ W (hbd.below hb) hr1
    rwa [Dk.tab_in (by omega) (by omega), show 2 + 2 * (th : Int) = (c : Int) by omega] at this
  have HSZ := Lib.hid KSZ; clear KSZ
  have HTC := Lib.hid KTC; clear KTC
  have HGN := Lib.hid KGN; clear KGN
  have HC := Lib.hid (show c ≠ 0 ∧ c < sz ∧ c ≤ 1000 ∧ 1 ≤ sz ∧ sz ≤ 200 by omega)
  have HS := Lib.hid hs
  have HS2 := Lib.hid hs2
  clear hbd hr hrp hr1 hs hs2 hc hsz
  obtain ⟨m, hm⟩ : ∃ m, m = rs.length := ⟨_, rfl⟩
  obtain ⟨m2, hm2⟩ : ∃ m2, m2 = bs.length := ⟨_, rfl⟩
  rw [← hm] at hl hc1 ⊢
  rw [← hm2] at hl2 hd1 ⊢
  have HM := Lib.hid hm
  have HM2 := Lib.hid hm2
  clear hm hm2
  have a1 : ¬ (40 : Int) < (m : Int) := by omega
  have a2 : ¬ (60 : Int) < (m2 : Int) := by omega
  go_enter Tryd.func4, Tryd.ntmps4
  go_wp2_with fail
  rw [show w.alloc (.cells #[.int .u64 (d : Int), .int .i64 (th : Int), .int .i64 (n₀ : Int), .int .i64 k₀, .int .u64 s₀] 24) = W0 from hW0.symm]
  clear hW0
  with_reducible refine KR.out.mono ?_
  rintro e w1 ⟨rfl, hb1⟩
  have HB1 := Lib.hid (HB0.out.trans (hb1.mono HB0.out.size))
  have HI1 := Lib.hid (HSI.out.below hb1)
  clear hb1 KR HSI HB0
  go_wp2_with fail
  with_reducible refine (KNA.out _).mono ?_
  rintro e w2 ⟨rfl, F, hA, hb2, hs2⟩
  obtain ⟨C, hC⟩ : ∃ C, C = w1.heap.size := ⟨_, rfl⟩
  rw [← hC] at hA hb2 hs2 ⊢
  have HI2 := Lib.hid (HI1.out.below (hC ▸ hb2))
  have HZ := Lib.hid (show w.heap.size < C by rw [hC]; exact HI1.out.lt)
  have HB2 := Lib.hid (HB1.out.trans (hb2.mono (by have := HZ.out; omega)))
  have HA2 := Lib.hid hA
  have HC2 := Lib.hid (show C ≤ w2.heap.size by omega)
  have d2 := HI2.out.cell 2 rfl
  have K3 := Lib.hid (HSZ.out _ HB2.out)
  have K4 := Lib.hid (alloc_ok hA HC2.out sz HC.out.2.2.2.1 (by show sz ≤ 200 - 0; have := HC.out; omega) (by simp))
  clear hC hA hb2 hs2 HI1 HB1 KNA HSZ
  go_wp2_with fail
  with_reducible refine K3.out.mono ?_
  rintro e w3 ⟨rfl, rfl⟩
  go_wp2_with fail
  with_reducible refine K4.out.mono ?_
  rintro e w3 ⟨rfl, F3, hA3, ht3⟩
  have hA3 : Ax C w3 (C + 1) (Mg (List.replicate sz 0)) F3 := hA3
  have hb3 : Below C w2 w3 := ht3.below (fun k hk => (HA2.out.foot hk).1) HC2.out
  have hI3 := HI2.out.tn (Tn.of_below (F := fun _ => False) (Below.refl w2.heap.size w2))
  have hi3 := (hb3.block w.heap.size HZ.out).trans HI2.out.at'
  have f0 : w3.frozen? ⟨w.heap.size, 0, none⟩ = false := by simp [World.frozen?, hi3]
  obtain ⟨W3, hW3⟩ : ∃ W3, W3 = w3.setCell ⟨w.heap.size, 0, none⟩ (.int .u64 1) := ⟨_, rfl⟩
  have hi4 : W3.heap[w.heap.size]? = some (.cells (siteC 1 (th : Int) (n₀ : Int) k₀ s₀) 24 (0, 0)) := by
    rw [hW3, heap_setc hi3 _ _]; rfl
  have hA4 : Ax C W3 (C + 1) (Mg (List.replicate sz 0)) F3 := by
    rw [hW3]
    refine hA3.keep fun k hk => Below.heap_setCell _ _ _ _ (fun e => ?_)
    have := (hA3.foot hk).1
    have := HZ.out
    simp only at e
    omega
  have hB4 : Below w.heap.size w W3 := by
    rw [hW3]
    exact (HB2.out.trans (hb3.mono (by have := HZ.out; omega))).setCell (p := ⟨w.heap.size, 0, none⟩) (Nat.le_refl _) _
  have hC4 : C ≤ W3.heap.size := by
    have := hb3.size
    have := HC2.out
    rw [hW3]; simp [World.setCell]; omega
  have HI4 := Lib.hid hi4
  have HA4 := Lib.hid hA4
  have HB4 := Lib.hid hB4
  have HC4 := Lib.hid hC4
  have K5 := Lib.hid (HGN.out _ hB4)
  have e0 : w3.cell? ⟨w.heap.size, 0, none⟩ = some (.int .u64 (d : Int)) := by simp [World.cell?, hi3]
  have e1 : w3.cell? ⟨w.heap.size, 1, none⟩ = some (.int .i64 (th : Int)) := by simp [World.cell?, hi3]
  have e2 : w3.cell? ⟨w.heap.size, 2, none⟩ = some (.int .i64 (n₀ : Int)) := by simp [World.cell?, hi3]
  have e3 : w3.cell? ⟨w.heap.size, 3, none⟩ = some (.int .i64 k₀) := by simp [World.cell?, hi3]
  have e4 : w3.cell? ⟨w.heap.size, 4, none⟩ = some (.int .u64 s₀) := by simp [World.cell?, hi3]
  clear hA3 hb3 hI3 hi3 ht3 hi4 hA4 hB4 hC4 K3 K4 HI2 HB2 HA2 HC2 d2 HGN
  generalize hz : w.heap.size = z at e0 e1 e2 e3 e4 f0 HI4 HZ hW3 ⊢
  go_wp2_with fail
  rw [← hW3]
  clear hW3 f0
  with_reducible refine K5.out.mono ?_
  rintro e w4 ⟨q, rfl, hq, hg4, hb4⟩
  have HI5 := Lib.hid ((hb4.block z (by have := HZ.out; have := HC4.out; omega)).trans HI4.out)
  have HA5 := Lib.hid (HA4.out.below hb4 (Nat.le_refl _))
  have HQ := Lib.hid (show C ≤ q by have := HC4.out; omega)
  have HNQ := Lib.hid (show ¬ F3 q from fun e => by have := (HA4.out.foot e).2; omega)
  have HB5 := Lib.hid (HB4.out.trans (hb4.mono HB4.out.size))
  have HC5 := Lib.hid (show C ≤ w4.heap.size by have := hb4.size; have := HC4.out; omega)
  have HG5 := Lib.hid hg4
  have HS5 := Lib.hid (HS.out.below HB5.out)
  have HS6 := Lib.hid (HS2.out.below HB5.out)
  have HWZ := Lib.hid hz
  clear hz hq hg4 hb4 K5 HA4 HB4 HC4 HI4 e0 e1 e2 e3 e4 HS HS2
  go_wp2
  go_loopw [9, 10, 11] (fun a o i wr => ∃ (at' own n R : Nat) (s : Gd.S) (ws : List Int) (F : Nat → Prop), a = .int .i64 (at' : Int) ∧ o = .int .i64 (own : Int) ∧ i = .int .i64 (n : Int) ∧ n ≤ m2 ∧ at' ≤ m ∧ Gd.Inv ws R s own at' c ∧ Ax C wr (C + 1) (Mg ws) F ∧ Gb wr q s 1 (c : Int) ∧ ¬ F q ∧ Below C w4 wr) (fun _ _ i _ => m2 - (intOf i).toNat)
  case atStart => exact ⟨0, 0, 0, 0, ⟨1, 0⟩, _, F3, rfl, rfl, rfl, by omega, by omega, Gd.Inv.start HC.out.1 HC.out.2.1, HA5.out, HG5.out, HNQ.out, Below.refl _ _⟩
  case round =>
    clear HA5 HG5 HNQ
    obtain ⟨at', own, n, R, s, ws, F, rfl, rfl, rfl, hn, hat, hinv, hA, hG, hnq, hB⟩ := hrel
    have hob := hinv.bound
    by_cases hlt : n < m2
    · have hltZ : (n : Int) < (m2 : Int) := by omega
      obtain ⟨b2, off2, had2, hcell2⟩ := bl_at (HS6.out.below (hB.mono (by have := HZ.out; have := HWZ.out; omega))) (show n < bs.length by rw [← HM2.out]; exact hlt)
      have hCr : C ≤ wr.heap.size := by have := HC5.out; have := hB.size; omega
      subst had2
      generalize bs.getD n false = b at hcell2
      by_cases hgo : b = true ∧ at' < m
      · obtain ⟨rfl, hatm⟩ := hgo
        have hatZ : (at' : Int) < (m : Int) := by omega
        obtain ⟨b1, off1, had1, hcell1⟩ := sl_at (HS5.out.below (hB.mono (by have := HZ.out; have := HWZ.out; omega))) (show at' < rs.length by rw [← HM.out]; exact hatm)
        subst had1
        generalize rs.getD at' 0 = v at hcell1
        have KD := Lib.hid (show Calls Tryd.prog 15 #[.pointer (some ⟨C + 1, 0, none⟩), .agg #[.int .i64 2, .int .u64 1, .int .i64 0, .int .u64 0, .int .u64 (v : Int)]] wr (Turns (.int .u64 0) C (C + 1) (Mg (ws.set 0 (v : Int))) F wr) from mg_store ws 0 v (by have := hinv.len; omega) (by omega) C wr (C + 1) F hA hCr)
        have HINV := Lib.hid (hinv.moved v)
        have HA := Lib.hid hA
        have HG := Lib.hid hG
        have HNQ := Lib.hid hnq
        have HB := Lib.hid hB
        have HCR := Lib.hid hCr
        clear hinv hA hG hnq hB hCr hob
        go_wp2_with fail
        with_reducible refine KD.out.mono ?_
        rintro e w5 ⟨rfl, F5, hA5, ht5⟩
        have HA6 := Lib.hid hA5
        have HG6 := Lib.hid (HG.out.keep (ht5.block q HG.out.lt HNQ.out))
        have HNQ6 := Lib.hid (show ¬ F5 q from fun e => (ht5.foot q e).elim HNQ.out (fun e2 => by have := HG.out.lt; omega))
        have HB6 := Lib.hid (HB.out.trans (ht5.below (fun k hk => (HA.out.foot hk).1) HCR.out))
        clear hA5 ht5 KD HA HG HNQ HB
        go_wp2
        go_roundw
        case rel => exact ⟨at' + 1, own, n + 1, v, s, _, F5, by go_num, rfl, by go_num, by omega, by omega, HINV.out, HA6.out, HG6.out, HNQ6.out, HB6.out⟩
        case measure => simp [intOf]; omega
      · have hcase : b = false ∨ (b = true ∧ ¬ at' < m) := by
          cases b with
          | false => exact .inl rfl
          | true => exact .inr ⟨rfl, fun e => hgo ⟨rfl, e⟩⟩
        clear hgo
        have KG := galone (q := q) (c := c) hA hG HQ.out hnq hCr hinv.p hinv.rem HC.out.1 hinv.len HC.out.2.2.1 hinv.root
        obtain ⟨o1, ho1⟩ : ∃ o1, o1 = own + 1 := ⟨_, rfl⟩
        have ew : wrap64 ((own : Int) + 1) = (o1 : Int) := by unfold wrap64; omega
        have hBw : Below w.heap.size w wr := HB5.out.trans (hB.mono (by have := HZ.out; have := HWZ.out; omega))
        have HBW := Lib.hid hBw
        have HINV := Lib.hid hinv
        have HB := Lib.hid hB
        have HO1 := Lib.hid ho1
        have HCR := Lib.hid hCr
        clear hA hG hnq hB hCr hBw hob hinv ho1
        unfold Did1 at KG
        by_cases hrem : Gd.rem s R = 1
        · obtain ⟨hce, hg1, h0, hcc, h3, h4⟩ := HINV.out.ends hrem
          rw [decide_eq_true hrem, hce, hg1] at KG
          have KG := Lib.hid KG
          have H0 := Lib.hid h0
          have HCC := Lib.hid hcc
          have H3 := Lib.hid (show 3 ≤ o1 ∧ o1 ≤ 3 + 2 * at' by have := HO1.out; omega)
          clear hce hg1 h0 hcc h3 h4 hrem HINV HO1
          rcases hcase with rfl | ⟨rfl, hatm⟩
          all_goals
            try have hatZ : ¬ (at' : Int) < (m : Int) := by omega
            go_wp2_with fail
            with_reducible refine KG.out.mono ?_
            rintro e w5 ⟨rfl, F5, hA5, hG5, hnq5, hb5⟩
            have KR := Lib.hid (show Calls Tryd.prog 10 #[.pointer (some ⟨q, 0, none⟩)] w5 (Same (.tuple #[.int .u64 (R : Int), .bool true]) w5) from gres_any hG5)
            have KL := Lib.hid (show Calls Tryd.prog 17 #[.pointer (some ⟨C + 1, 0, none⟩), .int .u64 1, .int .i64 0] w5 (Same (.tuple #[.int .u64 (R : Int), .int .i64 0]) w5) from load_ok (b := 1) hA5 (by omega) (mg_get ws) 0 H0.out)
            have KL2 := Lib.hid (show Calls Tryd.prog 17 #[.pointer (some ⟨C + 1, 0, none⟩), .int .u64 1, .int .i64 (c : Int)] w5 (Same (.tuple #[.int .u64 (R : Int), .int .i64 0]) w5) from load_ok (b := 1) hA5 (by omega) (mg_get ws) c HCC.out)
            have KF := Lib.hid (show Calls Tryd.prog 19 #[.pointer (some ⟨C + 1, 0, none⟩)] w5 (Same (.int .i64 0) w5) from faults_any hA5)
            have hb5w : Below w.heap.size w w5 := HBW.out.trans (hb5.mono (by have := HZ.out; have := HWZ.out; omega))
            have KT := Lib.hid (HTC.out _ hb5w)
            have KW := Lib.hid (AW.out _ hb5w)
            have HB5w := Lib.hid hb5w
            have hi6 := ((HB.out.trans hb5).block z HZ.out).trans HI5.out
            have s1 : w5.cell? ⟨z, 1, none⟩ = some (.int .i64 (th : Int)) := by simp [World.cell?, hi6]
            obtain ⟨x1, x2⟩ := H3.out
            have x1Z : (3 : Int) ≤ (o1 : Int) := by omega
            have x2Z : (o1 : Int) ≤ 3 + 2 * (at' : Int) := by omega
            have y1 : wrap64 (2 * (at' : Int)) = 2 * (at' : Int) := by unfold wrap64; omega
            have y2 : wrap64 (3 + 2 * (at' : Int)) = 3 + 2 * (at' : Int) := by unfold wrap64; omega
            clear hA5 hG5 hnq5 hb5 KG HB HBW hb5w hi6 H0 HCC H3
            go_wp2_with fail
            with_reducible refine KR.out.mono ?_
            rintro e w6 ⟨rfl, rfl⟩
            go_wp2_with fail
            with_reducible refine KL.out.mono ?_
            rintro e w6 ⟨rfl, rfl⟩
            go_wp2_with fail
            with_reducible refine KT.out.mono ?_
            rintro e w6 ⟨rfl, rfl⟩
            go_wp2_with fail
            with_reducible refine KL2.out.mono ?_
            rintro e w6 ⟨rfl, rfl⟩
            go_wp2_with fail
            with_reducible refine KF.out.mono ?_
            rintro e w6 ⟨rfl, rfl⟩
            go_wp2_with fail
            with_reducible refine KW.out.mono ?_
            rintro e w6 ⟨rfl, hb6⟩
            have HB6 := Lib.hid (HB5w.out.trans (hb6.mono HB5w.out.size))
            clear hb6
            go_wp2
            go_ret
            exact ⟨rfl, HB6.out⟩
        · have HI := Lib.hid (HINV.out.goes hrem)
          rw [decide_eq_false hrem] at KG
          have KG := Lib.hid KG
          clear hrem HINV
          rcases hcase with rfl | ⟨rfl, hatm⟩
          all_goals
            try have hatZ : ¬ (at' : Int) < (m : Int) := by omega
            go_wp2_with fail
            with_reducible refine KG.out.mono ?_
            rintro e w5 ⟨rfl, F5, hA5, hG5, hnq5, hb5⟩
            have HA6 := Lib.hid hA5
            have HG6 := Lib.hid hG5
            have HNQ6 := Lib.hid hnq5
            have HB6 := Lib.hid (HB.out.trans hb5)
            clear hA5 hG5 hnq5 hb5 KG HB HBW
            go_wp2
            go_roundw
            case rel => exact ⟨at', own + 1, n + 1, R, _, _, F5, rfl, by rw [ew, HO1.out], by go_num, by omega, by omega, HI.out, HA6.out, HG6.out, HNQ6.out, HB6.out⟩
            case measure => simp [intOf]; omega
    · have hBw : Below w.heap.size w wr := HB5.out.trans (hB.mono (by have := HZ.out; have := HWZ.out; omega))
      have KF := Lib.hid (show Calls Tryd.prog 19 #[.pointer (some ⟨C + 1, 0, none⟩)] wr (Same (.int .i64 0) wr) from faults_any hA)
      have KW := Lib.hid (AW.out _ hBw)
      have HBW := Lib.hid hBw
      have x2Z : (own : Int) ≤ 3 + 2 * (at' : Int) := by omega
      have y1 : wrap64 (2 * (at' : Int)) = 2 * (at' : Int) := by unfold wrap64; omega
      have y2 : wrap64 (3 + 2 * (at' : Int)) = 3 + 2 * (at' : Int) := by unfold wrap64; omega
      have hltZ : ¬ (n : Int) < (m2 : Int) := by omega
      clear hA hG hnq hB hBw hinv
      go_wp2_with fail
      with_reducible refine KF.out.mono ?_
      rintro e w6 ⟨rfl, rfl⟩
      go_wp2_with fail
      with_reducible refine KW.out.mono ?_
      rintro e w6 ⟨rfl, hb6⟩
      have HB6 := Lib.hid (HBW.out.trans (hb6.mono HBW.out.size))
      clear hb6
      go_wp2
      go_ret
      exact ⟨rfl, HB6.out⟩
end Go.Proofs.YtdmmgnicbemghaaDoor
