/-
  The walk of ShieldActs' loop. By an AI agent.
-/
import Derived.Test.YtjmgjgohllihdaaDoorShActs
set_option linter.unusedSimpArgs false
set_option linter.unusedVariables false
namespace Go.Proofs.YtjmgjgohllihdaaDoor
open Go.RowKit Go.Maps
open Ac (A)
theorem right_parts {d t n k : Int} (h : Dk.right d t n k = true) : (1 ≤ n ∧ n ≤ 64) ∧ (0 ≤ t ∧ t ≤ 63) ∧ t < n := by
  unfold Dk.right Dk.inn at h
  simp at h
  omega
/-- What Result tells, as two words. -/
theorem sres_two {s : Sh.S} (h : 1 ≤ s.p ∧ s.p ≤ 3) : ∃ rr : Nat, sres s = .tuple #[.int .u64 (rr : Int), .bool (!Sh.more s)] ∧ (Sh.more s = true → rr = 0) ∧ (Sh.more s = false → rr = s.r) := by
  unfold sres
  obtain e | e | e := Sh.parts h <;> rw [e]
  · exact ⟨0, rfl, fun _ => rfl, fun h => nomatch h⟩
  · exact ⟨0, rfl, fun _ => rfl, fun h => nomatch h⟩
  · exact ⟨s.r, rfl, (fun h => nomatch h), fun _ => rfl⟩
set_option maxRecDepth 100000 in
set_option maxHeartbeats 8000000 in
theorem sacts_in (d th : Nat) (n₀ k₀ s : Int) (a0 a1 a2 i : Nat) (gs : List Nat) (ad : Option Addr) (cap : Nat) (w : World) (hbd : Bd w) (hr : Dk.right (d : Int) (th : Int) n₀ k₀ = true) (hi : a1 % 5000 = i + 1) (h2 : a2 < 18446744073709551616) (hw : ∀ x ∈ gs, x < 18446744073709551616) (hg : gs.length ≤ 40) (hc : gs.length ≤ cap) (hc2 : cap ≤ maxLen) (hnil : ad = none → cap = 0) (hs : Sl .u64 w w.heap.size ad (Kr.up gs)) :
    Calls Tryd.prog 3 #[.agg (siteC (d : Int) (th : Int) n₀ k₀ s), .agg (slotC (a0 : Int) (a1 : Int) (a2 : Int)), .slice ad gs.length cap] w (Gives (.bool true) w) := by
  have hth : th ≤ 63 := by have := (right_parts hr).2.1; omega
  unfold maxLen at hc2
  have HB0 := Lib.hid (both_below w (d : Int) (th : Int) n₀ k₀ s (a0 : Int) (a1 : Int) (a2 : Int))
  have AW := Lib.hid (fun W (hb : Below w.heap.size w W) => awake_any W (hbd.below hb))
  have HSI := Lib.hid (both_site w (d : Int) (th : Int) n₀ k₀ s (a0 : Int) (a1 : Int) (a2 : Int))
  have HSL := Lib.hid (both_slot w (d : Int) (th : Int) n₀ k₀ s (a0 : Int) (a1 : Int) (a2 : Int))
  have hci : (a1 : Int) % 5000 - 1 = (i : Int) := by omega
  have KN := snew_yes d (th : Int) n₀ k₀ s a0 (i : Int) a2 (both w (d : Int) (th : Int) n₀ k₀ s (a0 : Int) (a1 : Int) (a2 : Int)) (hbd.below HB0.out) hr (by omega) h2
  rw [Dk.box_in (by omega) (by omega)] at KN
  have KN := Lib.hid KN
  have KR := Lib.hid (fun W => by have := drright_any (d : Int) (th : Int) n₀ k₀ s W (by omega); rw [hr] at this; exact this)
  have hv := h2
  have KM := fun (w1 : World) (n : Nat) (h1 : Sl .u64 w1 w.heap.size ad (Kr.up gs)) (h2 : w.heap.size ≤ w1.heap.size) (h3 : n ≤ gs.length) => shield_round (w := w1) (cap := cap) d th n₀ k₀ s a0 i a2 hth h1 h2 h3 hv hw (by omega)
  obtain ⟨cl, hcl⟩ : ∃ cl : Int, cl = 3 + 2 * (th : Int) := ⟨_, rfl⟩
  rw [← hcl] at KM KN
  have KA : ∀ (W : World) (q j : Nat), Sb W q (Sh.run a2 (gs.take j)) d cl a0 (i : Int) → Calls Tryd.prog 8 #[.pointer (some ⟨q, 0, none⟩)] W (Gives (.tuple #[av (Sh.act d cl a0 (i : Int) (Sh.run a2 (gs.take j))), .bool (Sh.more (Sh.run a2 (gs.take j)))]) W) := fun W q j h => sact_any h (Sh.run_p _ _).2 (Sh.run_r h2 (fun x hx => hw x (List.mem_of_mem_take hx)))
  have KT : ∀ (W : World) (q j : Nat), Sb W q (Sh.run a2 (gs.take j)) d cl a0 (i : Int) → j < gs.length → Calls Tryd.prog 9 #[.pointer (some ⟨q, 0, none⟩), .int .u64 ((gs.getD j 0 : Nat) : Int)] W fun e w' => e = .returned (.tuple #[]) ∧ Sb w' q (Sh.run a2 (gs.take (j + 1))) d cl a0 (i : Int) ∧ Chg q W w' := fun W q j h hj => by
    rw [Sh.run_next hj]
    exact stake_any h (Sh.run_p _ _).2 (Sh.run_r h2 (fun x hx => hw x (List.mem_of_mem_take hx))) _ (Sh.getD_lt hw j)
  have KS : ∀ (W : World) (q j : Nat), Sb W q (Sh.run a2 (gs.take j)) d cl a0 (i : Int) → Calls Tryd.prog 10 #[.pointer (some ⟨q, 0, none⟩)] W (Same (sres (Sh.run a2 (gs.take j))) W) := fun W q j h => sres_any h
  have HM := Lib.hid KM; clear KM
  have HT := Lib.hid KT; clear KT
  have HA := Lib.hid KA; clear KA
  have HR := Lib.hid KS; clear KS
  have HS := Lib.hid hs; clear hs
  obtain ⟨m, hm⟩ : ∃ m, m = gs.length := ⟨_, rfl⟩
  rw [← hm] at hg hc ⊢
  have HMM := Lib.hid hm; clear hm
  have HNIL := Lib.hid hnil; clear hnil
  clear hw hbd hr hth hcl h2 hv hi
  have a3 : ¬ (40 : Int) < (m : Int) := by omega
  have g0 := HSI.out.cell 0 rfl
  have g1 := HSI.out.cell 1 rfl
  have g2 := HSI.out.cell 2 rfl
  have g3 := HSI.out.cell 3 rfl
  have g4 := HSI.out.cell 4 rfl
  have y0 := HSL.out.cell 0 rfl
  have y2 := HSL.out.cell 2 rfl
  go_enter Tryd.func3, Tryd.ntmps3
  go_wp2_with fail
  with_reducible refine KN.out.mono ?_
  rintro e w1 ⟨q, rfl, hq, hg1, hb⟩
  clear g0 g1 g2 g3 g4 y0 y2
  have hA1 := HSI.out.below hb
  have hL1 := HSL.out.below hb
  have d0 := hA1.cell 0 rfl
  have d1 := hA1.cell 1 rfl
  have d2 := hA1.cell 2 rfl
  have d3 := hA1.cell 3 rfl
  have d4 := hA1.cell 4 rfl
  have HG1 := Lib.hid hg1
  have HQ := Lib.hid (show w.heap.size + 1 < q from Nat.lt_of_lt_of_le HSL.out.lt hq)
  have HB1 := Lib.hid (HB0.out.trans (hb.mono HB0.out.size))
  have HA1 := Lib.hid (show Aside (fun j => j = q) w1 w.heap.size (.cells (siteC (d : Int) (th : Int) n₀ k₀ s) 24 (0, 0)) from ⟨hA1.at', fun e => by have := HQ.out; omega⟩)
  have HL1 := Lib.hid (show Aside (fun j => j = q) w1 (w.heap.size + 1) (.cells (slotC (a0 : Int) (a1 : Int) (a2 : Int)) 25 (0, 0)) from ⟨hL1.at', fun e => by have := HQ.out; omega⟩)
  clear hA1 hL1 hg1 hq hb KN HSI HSL HB0
  obtain ⟨z, hz⟩ : ∃ z, z = w.heap.size := ⟨_, rfl⟩
  have HZ := Lib.hid hz
  rw [← hz] at d0 d1 d2 d3 d4 HA1 HL1 HQ HM HS ⊢
  clear hz
  go_wp2_with fail
  with_reducible refine (KR.out _).mono ?_
  rintro e w2 ⟨rfl, hb2⟩
  have HG2 := Lib.hid (HG1.out.below hb2)
  have HA2 := Lib.hid (HA1.out.below hb2)
  have HL2 := Lib.hid (HL1.out.below hb2)
  have HB2 := Lib.hid (HB1.out.trans (hb2.mono HB1.out.size))
  clear hb2 HG1 HB1 d0 d1 d2 d3 d4 KR HA1 HL1
  go_wp2
  go_loopw [13] (fun ii wr => ∃ k : Nat, k ≤ m + 1 ∧ ii = .int .i64 k ∧ Sb wr q (Sh.run a2 (gs.take (min k m))) d cl a0 (i : Int) ∧ Aside (fun j => j = q) wr z (.cells (siteC (d : Int) (th : Int) n₀ k₀ s) 24 (0, 0)) ∧ Aside (fun j => j = q) wr (z + 1) (.cells (slotC (a0 : Int) (a1 : Int) (a2 : Int)) 25 (0, 0)) ∧ Below w.heap.size w wr) (fun i _ => m + 1 - (intOf i).toNat)
  case atStart => exact ⟨0, by omega, rfl, by rw [Nat.zero_min]; exact HG2.out, HA2.out, HL2.out, HB2.out⟩
  case round =>
    clear HG2 HA2 HL2 HB2
    obtain ⟨n, hn, rfl, hG, hAs, hLs, hBb⟩ := hrel
    by_cases hlt : n ≤ m
    · rw [Nat.min_eq_left hlt] at hG
      have hltZ : (n : Int) ≤ (m : Int) := by omega
      have hnc : n ≤ cap := by omega
      have hBs : z ≤ wr.heap.size := by have := HZ.out; have := hBb.size; omega
      have KK := HM.out wr n (HS.out.below (HZ.out ▸ hBb)) hBs (by rw [← HMM.out]; exact hlt)
      have hd := fun o => (hAs.below ((Below.refl _ wr).alloc (Nat.le_refl _) o))
      have d0 := fun o => (hd o).cell 0 rfl
      have d1 := fun o => (hd o).cell 1 rfl
      have d2 := fun o => (hd o).cell 2 rfl
      have d3 := fun o => (hd o).cell 3 rfl
      have d4 := fun o => (hd o).cell 4 rfl
      have hd2 := fun o => (hLs.below ((Below.refl _ wr).alloc (Nat.le_refl _) o))
      have y0 := fun o => (hd2 o).cell 0 rfl
      have y2 := fun o => (hd2 o).cell 2 rfl
      clear hd hd2
      have HB := Lib.hid hBb
      have HGS := Lib.hid hG
      have HAS := Lib.hid hAs
      have HLS := Lib.hid hLs
      have HBS := Lib.hid hBs
      obtain ⟨rr, hrr, hr1, hr2⟩ := sres_two (Sh.run_p a2 (gs.take n))
      have HRR := Lib.hid hrr
      clear hG hBb hBs hAs hLs hrr
      obtain ⟨M, hMM⟩ : ∃ M, M = Sh.more (Sh.run a2 (gs.take n)) := ⟨_, rfl⟩
      obtain ⟨X, hX⟩ : ∃ X, X = Sh.act d cl a0 (i : Int) (Sh.run a2 (gs.take n)) := ⟨_, rfl⟩
      obtain ⟨R, hR⟩ : ∃ R, R = (Sh.run a2 (gs.take n)).r := ⟨_, rfl⟩
      rw [← hMM, ← hX, ← hR] at KK
      rw [← hMM] at hr1 hr2 HRR
      rw [← hR] at hr2
      have KK := Lib.hid KK
      have HMB := Lib.hid hMM
      have HXX := Lib.hid hX
      have H1 := Lib.hid hr1
      have H2 := Lib.hid hr2
      clear hX hMM hR hr1 hr2
      go_wp2_with fail
      with_reducible refine KK.out.mono ?_
      rintro e w2 ⟨v, rfl, hT2, hb2, hv⟩
      have hG2 := HGS.out.below hb2
      have KR := HR.out _ _ _ hG2
      rw [HRR.out] at KR
      have KR := Lib.hid KR
      have HG2 := Lib.hid hG2
      have HT2 := Lib.hid hT2
      have HA2 := Lib.hid (HAS.out.below hb2)
      have HL2 := Lib.hid (HLS.out.below hb2)
      have HB2 := Lib.hid (HB.out.trans (hb2.mono HB.out.size))
      have HV := Lib.hid hv
      have KA := HA.out _ _ _ hG2
      rw [← HMB.out, ← HXX.out] at KA
      obtain ⟨xk, xb, xc, xo, xn⟩ := X
      have KA := Lib.hid KA
      clear hT2 hb2 hG2 KK HGS HB HBS hv HAS HLS d0 d1 d2 d3 d4 y0 y2 HRR
      go_wp2_with fail
      with_reducible refine KR.out.mono ?_
      rintro e w3 ⟨rfl, rfl⟩
      go_wp2_with fail
      with_reducible refine KA.out.mono ?_
      rintro e w5 ⟨rfl, hb5⟩
      obtain ⟨W, hW⟩ : ∃ W, W = w5.alloc (.cells #[.int .i64 xk, .int .u64 (xb : Int), .int .i64 xc, .int .u64 (xo : Int), .int .u64 (xn : Int)] 32) := ⟨_, rfl⟩
      have hbW : Below w5.heap.size w5 W := by rw [hW]; exact (Below.refl _ w5).alloc (Nat.le_refl _) _
      have hb4 := hb5.trans (hbW.mono hb5.size)
      obtain ⟨e0, e1, e2, e3, e4⟩ := mbox w5 ⟨xk, xb, xc, xo, xn⟩
      rw [show boxed w5 ⟨xk, xb, xc, xo, xn⟩ = W from hW.symm] at e0 e1 e2 e3 e4
      dsimp only at e0 e1 e2 e3 e4
      obtain ⟨t2, t3, t4, t5, t6, t7, -⟩ := HT2.out.below hb4
      dsimp only at t3 t4 t5 t6 t7
      have HG5 := Lib.hid (HG2.out.below hb4)
      have HA5 := Lib.hid (HA2.out.below hb4)
      have HL5 := Lib.hid (HL2.out.below hb4)
      have HB5 := Lib.hid (HB2.out.trans (hb4.mono HB2.out.size))
      clear hb5 hbW hb4 KA KR HG2 HT2 HB2 HA2 HL2
      go_wp2_with fail
      rw [← hW]
      clear hW
      generalize w5.heap.size = z5 at e0 e1 e2 e3 e4 ⊢
      have q1 := ne_act xk xb xc xo xn xk xb xc xo xn
      rw [eqB_self] at q1
      cases M
      all_goals
        first
          | (obtain rfl := H1.out rfl; clear H1 H2 HV)
          | (obtain rfl := H2.out rfl; obtain rfl := HV.out rfl; clear H1 H2 HV)
        clear HMB HXX
        go_quiet (fail)
        obtain ⟨V, hV⟩ : ∃ V, V = W.drewN nq := ⟨_, rfl⟩
        rw [← hV]
        have hbV : Below W.heap.size W V := by rw [hV]; exact below_drewN (Below.refl _ W) nq
        have HG6 := Lib.hid (HG5.out.below hbV)
        have HA6 := Lib.hid (HA5.out.below hbV)
        have HL6 := Lib.hid (HL5.out.below hbV)
        have HB6 := Lib.hid (HB5.out.trans (hbV.mono HB5.out.size))
        clear hV hbV HG5 HB5 HA5 HL5 t2 t3 t4 t5 t6 t7 e0 e1 e2 e3 e4 q1
        by_cases hlt2 : n < m
        · obtain ⟨b0, off, rfl, hcell⟩ := sl_at (HS.out.below (HZ.out ▸ HB6.out)) (show n < gs.length by rw [← HMM.out]; exact hlt2)
          have KT2 := Lib.hid (HT.out V q n HG6.out (by rw [← HMM.out]; exact hlt2))
          have hlt2Z : (n : Int) < (m : Int) := by omega
          generalize gs.getD n 0 = y at hcell KT2
          go_wp2_with fail
          with_reducible refine KT2.out.mono ?_
          rintro e w6 ⟨rfl, hG7, ht6⟩
          have HG7 := Lib.hid hG7
          have HA7 := Lib.hid (HA6.out.tn ht6)
          have HL7 := Lib.hid (HL6.out.tn ht6)
          have HB7 := Lib.hid (HB6.out.trans (ht6.below (fun k hk => by have := HQ.out; have := HZ.out; omega) HB6.out.size))
          clear hG7 ht6 KT2 HB6 HG6 HA6 HL6
          go_wp2
          go_roundw
          case rel => exact ⟨n + 1, by omega, by go_num, by rw [Nat.min_eq_left (by omega)]; exact HG7.out, HA7.out, HL7.out, HB7.out⟩
          case measure => simp [intOf]; omega
        · have hlt2Z : ¬ (n : Int) < (m : Int) := by omega
          go_wp2
          go_roundw
          case rel => exact ⟨n + 1, by omega, by go_num, by rw [Nat.min_eq_right (by omega), show m = n by omega]; exact HG6.out, HA6.out, HL6.out, HB6.out⟩
          case measure => simp [intOf]; omega
    · obtain rfl : n = m + 1 := by omega
      have HB := Lib.hid hBb
      have K9 := Lib.hid (AW.out wr hBb)
      clear hBb hG hAs hLs
      go_wp2_with fail
      with_reducible refine K9.out.mono ?_
      rintro e w9 ⟨rfl, hb9⟩
      have BF := Lib.hid (HB.out.trans (hb9.mono HB.out.size))
      clear hb9
      go_wp2
      go_ret
      exact ⟨rfl, BF.out⟩
end Go.Proofs.YtjmgjgohllihdaaDoor
