/-
  The walk of CrowdActs' loop. By an AI agent.
-/
import Derived.Test.YtdbolhalgbiggaaCwActs
set_option linter.unusedSimpArgs false
set_option linter.unusedVariables false
namespace Go.Proofs.Ytdbolhalgbiggaa
open Go.RowKit Go.Maps
open Ac (A)
set_option maxRecDepth 100000 in
set_option maxHeartbeats 8000000 in
theorem cacts_in (d : Nat) (l th : Int) (gs : List Nat) (ad : Option Addr) (cap : Nat) (w : World) (hr : Tb.right (d : Int) (Tb.grp l) = true) (hg : gs.length ≤ 20) (hc : gs.length ≤ cap) (hc2 : cap ≤ maxLen) (hnil : ad = none → cap = 0) (hs : Sl .u64 w w.heap.size ad (Kr.up gs)) :
    Calls Try.prog 3 #[.agg #[.int .u64 (d : Int), .int .i64 l], .int .i64 th, .slice ad gs.length cap] w (Gives (.bool true) w) := by
  unfold maxLen at hc2
  have HB0 := Lib.hid (tboxed_below w (d : Int) l)
  have AW := Lib.hid (fun W => awake_any W)
  have HA := Lib.hid (tab_new w (d : Int) l (fun _ => False) (fun _ e => e.elim))
  have KN := Lib.hid (cnew_any d l (tboxed w (d : Int) l))
  have KR := Lib.hid (fun W => by have := trright_any (d : Int) l W (by omega); rw [hr] at this; exact this)
  have KNO := Lib.hid (fun W => cnote_any d l th W)
  have KRO := Lib.hid (fun W => rnote_any d l th W)
  have QN := ne_act 4 (d : Int) (Tb.strp th) 0 1 4 (d : Int) (Tb.strp th) 0 1
  rw [eqB_self] at QN
  have QN := Lib.hid QN
  unfold av at KNO KRO
  dsimp only at KNO KRO
  generalize Tb.strp th = st at *
  have KM := fun (w1 : World) (n : Nat) (h1 : Sl .u64 w1 w.heap.size ad (Kr.up gs)) (h2 : w.heap.size ≤ w1.heap.size) (h3 : n ≤ gs.length) => crowd_round (w := w1) (cap := cap) d l h1 h2 h3 (by omega)
  have KA : ∀ (W : World) (q j : Nat), Cb W q d l (Cw.run (gs.take j)) → Calls Try.prog 10 #[.pointer (some ⟨q, 0, none⟩)] W (Gives (.tuple #[av (Cw.act d (Cw.run (gs.take j))), .bool (Cw.more (Cw.run (gs.take j)))]) W) := fun W q j h => cact_any h hr (Cw.run_len _)
  have KT : ∀ (W : World) (q j : Nat), Cb W q d l (Cw.run (gs.take j)) → j < gs.length → Calls Try.prog 11 #[.pointer (some ⟨q, 0, none⟩), .int .u64 ((gs.getD j 0 : Nat) : Int)] W (Ctook q d l (Cw.run (gs.take (j + 1))) W) := fun W q j h hj => by
    rw [Cw.run_next hj]
    exact ctake_any h hr (Cw.run_len _) _
  have KS : ∀ (W : World) (q j : Nat), Cb W q d l (Cw.run (gs.take j)) → Calls Try.prog 12 #[.pointer (some ⟨q, 0, none⟩)] W (Gives (cres (7 * Tb.grp l) (Cw.run (gs.take j))) W) := fun W q j h => cres_any h hr (Cw.run_len _)
  unfold cres at KS
  generalize 7 * Tb.grp l = lim at *
  have HM := Lib.hid KM; clear KM
  have HT := Lib.hid KT; clear KT
  have HCA := Lib.hid KA; clear KA
  have HR := Lib.hid KS; clear KS
  have HS := Lib.hid hs; clear hs
  obtain ⟨m, hm⟩ : ∃ m, m = gs.length := ⟨_, rfl⟩
  rw [← hm] at hg hc ⊢
  have HMM := Lib.hid hm; clear hm
  have HNIL := Lib.hid hnil; clear hnil
  clear hr
  have a3 : ¬ (20 : Int) < (m : Int) := by omega
  go_enter Try.func3, Try.ntmps3
  go_wp2_with fail
  with_reducible refine KN.out.mono ?_
  rintro e w1 ⟨q, rfl, hq, hg1, hb⟩
  have HQ := Lib.hid (show w.heap.size < q from Nat.lt_of_lt_of_le (by rw [World.size_alloc]; omega) hq)
  have HA1 := Lib.hid (show Aside (fun j => j = q) w1 w.heap.size (.cells #[.int .u64 (d : Int), .int .i64 l] 24 (0, 0)) from ⟨(HA.out.below hb).at', fun e => by have := HQ.out; omega⟩)
  have HG1 := Lib.hid hg1
  have HB1 := Lib.hid (HB0.out.trans (hb.mono HB0.out.size))
  clear hg1 hq hb KN HA HB0
  obtain ⟨z, hz⟩ : ∃ z, z = w.heap.size := ⟨_, rfl⟩
  have HZ := Lib.hid hz
  rw [← hz] at HA1 HQ HM HS ⊢
  clear hz
  go_wp2
  have hA0 := HA1.out.cell 0 rfl
  have hA1 := HA1.out.cell 1 rfl
  refine wp_region_held_drew (S := fun w' => w'.cell? ⟨z, 0, none⟩ = some (.int .u64 (d : Int)) ∧ w'.cell? ⟨z, 1, none⟩ = some (.int .i64 l)) (by kernel_rfl) ⟨hA0, hA1⟩ (fun hS => ?_)
  refine wpAnyH_take (i := 0) (v := .agg #[.int .u64 (d : Int), .int .i64 l]) rfl (by kernel_rfl) (by kernel_rfl) (by kernel_rfl) (fun _ _ _ h => h) (Or.inl ⟨by kernel_rfl, fun w hS => by obtain ⟨s1, s2⟩ := hS; go_simp⟩) hS ?_
  refine wpAnyH_take (i := 1) (v := .int .i64 th) rfl (by kernel_rfl) (by kernel_rfl) (by kernel_rfl) (fun _ _ _ h => h) (Or.inl ⟨by kernel_rfl, fun w hS => by kernel_rfl⟩) hS ?_
  refine wpAnyH_take (i := 3) (v := .agg #[.int .u64 (d : Int), .int .i64 l]) rfl (by kernel_rfl) (by kernel_rfl) (by kernel_rfl) (fun _ _ _ h => h) (Or.inl ⟨by kernel_rfl, fun w hS => by obtain ⟨s1, s2⟩ := hS; go_simp⟩) hS ?_
  refine wpAnyH_take (i := 4) (v := .int .i64 th) rfl (by kernel_rfl) (by kernel_rfl) (by kernel_rfl) (fun _ _ _ h => h) (Or.inl ⟨by kernel_rfl, fun w hS => by kernel_rfl⟩) hS ?_
  clear hA0 hA1
  refine wpAnyH_ready (rs := [2]) (by kernel_rfl) (by simp) ?_
  refine AllReadyH.cons rfl (fun K hK => ?_) AllReadyH.nil
  go_simp
  go_at_call 7
  refine (KNO.out _).mono ?_
  rintro e w2 ⟨rfl, hb2⟩
  have hb12 := (Below.refl w1.heap.size w1).drew.trans (hb2.mono (Nat.le_refl _))
  have HA2 := Lib.hid (HA1.out.below hb12)
  have HG2 := Lib.hid (HG1.out.below hb12)
  have HB2 := Lib.hid (HB1.out.trans (hb12.mono HB1.out.size))
  clear hb2 hb12 HA1 HG1 HB1
  refine hK.out _ _ ⟨HA2.out.cell 0 rfl, HA2.out.cell 1 rfl⟩ (fun hS => ?_)
  clear hK K
  refine wpAnyH_ready (rs := [5]) (by kernel_rfl) (by simp) ?_
  refine AllReadyH.cons rfl (fun K hK => ?_) AllReadyH.nil
  go_simp
  go_at_call 8
  refine (KRO.out _).mono ?_
  rintro e w3 ⟨rfl, hb3⟩
  have HA3 := Lib.hid (HA2.out.below hb3)
  have HG3 := Lib.hid (HG2.out.below hb3)
  have HB3 := Lib.hid (HB2.out.trans (hb3.mono HB2.out.size))
  clear hb3 HA2 HG2 HB2
  refine hK.out _ _ ⟨HA3.out.cell 0 rfl, HA3.out.cell 1 rfl⟩ (fun hS => ?_)
  clear hK K
  have q0 := QN.out
  refine wpAnyH_take (i := 6) (v := .bool false) rfl (by kernel_rfl) (by kernel_rfl) (by kernel_rfl) (fun _ _ _ h => h) (Or.inl ⟨by kernel_rfl, fun w hS => by go_simp⟩) hS ?_
  refine wpAnyH_done (by kernel_rfl) ?_ _
  clear q0 hS QN KNO KRO
  have d0 := HA3.out.cell 0 rfl
  have d1 := HA3.out.cell 1 rfl
  go_wp2_with fail
  with_reducible refine (KR.out _).mono ?_
  rintro e w4 ⟨rfl, hb4⟩
  have HG4 := Lib.hid (HG3.out.below hb4)
  have HA4 := Lib.hid (HA3.out.below hb4)
  have HB4 := Lib.hid (HB3.out.trans (hb4.mono HB3.out.size))
  clear hb4 HG3 HB3 d0 d1 KR HA3
  go_wp2
  go_loopw [12] (fun i wr => ∃ k : Nat, k ≤ m + 1 ∧ i = .int .i64 k ∧ Cb wr q d l (Cw.run (gs.take (min k m))) ∧ Aside (fun j => j = q) wr z (.cells #[.int .u64 (d : Int), .int .i64 l] 24 (0, 0)) ∧ Below w.heap.size w wr) (fun i _ => m + 1 - (intOf i).toNat)
  case atStart => exact ⟨0, by omega, rfl, by rw [Nat.zero_min, Cw.run_zero]; exact HG4.out, HA4.out, HB4.out⟩
  case round =>
    clear HG4 HA4 HB4
    obtain ⟨n, hn, rfl, hG, hAs, hBb⟩ := hrel
    by_cases hlt : n ≤ m
    · rw [Nat.min_eq_left hlt] at hG
      have hltZ : (n : Int) ≤ (m : Int) := by omega
      have hnc : n ≤ cap := by omega
      have hBs : z ≤ wr.heap.size := by have := HZ.out; have := hBb.size; omega
      have KK := HM.out wr n (HS.out.below (HZ.out ▸ hBb)) hBs (by rw [← HMM.out]; exact hlt)
      have hd := fun o => (hAs.below ((Below.refl _ wr).alloc (Nat.le_refl _) o))
      have d0 := fun o => (hd o).cell 0 rfl
      have d1 := fun o => (hd o).cell 1 rfl
      clear hd
      have HB := Lib.hid hBb
      have HGS := Lib.hid hG
      have HAS := Lib.hid hAs
      have HBS := Lib.hid hBs
      clear hG hBb hBs hAs
      obtain ⟨M, hMM⟩ : ∃ M, M = Cw.more (Cw.run (gs.take n)) := ⟨_, rfl⟩
      obtain ⟨X, hX⟩ : ∃ X, X = Cw.act d (Cw.run (gs.take n)) := ⟨_, rfl⟩
      obtain ⟨R, hR⟩ : ∃ R, R = Cw.told lim (Cw.run (gs.take n)) := ⟨_, rfl⟩
      rw [← hMM, ← hX, ← hR] at KK
      have KK := Lib.hid KK
      have HMB := Lib.hid hMM
      have HXX := Lib.hid hX
      have HRR := Lib.hid hR
      clear hX hMM hR
      go_wp2_with fail
      with_reducible refine KK.out.mono ?_
      rintro e w2 ⟨rfl, hT2, hb2⟩
      have hG2 := HGS.out.below hb2
      have KR := HR.out _ _ _ hG2
      rw [← HMB.out, ← HRR.out] at KR
      have KR := Lib.hid KR
      have HG2 := Lib.hid hG2
      have HT2 := Lib.hid hT2
      have HA2 := Lib.hid (HAS.out.below hb2)
      have HB2 := Lib.hid (HB.out.trans (hb2.mono HB.out.size))
      clear hT2 hb2 hG2 KK HGS HB HBS HAS d0 d1
      go_wp2_with fail
      with_reducible refine KR.out.mono ?_
      rintro e w3 ⟨rfl, hb3⟩
      have HG3 := Lib.hid (HG2.out.below hb3)
      have HT3 := Lib.hid (HT2.out.below hb3)
      have HA3 := Lib.hid (HA2.out.below hb3)
      have HB3 := Lib.hid (HB2.out.trans (hb3.mono HB2.out.size))
      have KA := HCA.out _ _ _ HG3.out
      rw [← HMB.out, ← HXX.out] at KA
      obtain ⟨xk, xb, xc, xo, xn⟩ := X
      have KA := Lib.hid KA
      clear hb3 HG2 HT2 HA2 HB2
      go_wp2_with fail
      with_reducible refine KA.out.mono ?_
      rintro e w5 ⟨rfl, hb5⟩
      obtain ⟨W, hW⟩ : ∃ W, W = w5.alloc (.cells #[.int .i64 xk, .int .u64 (xb : Int), .int .i64 xc, .int .u64 (xo : Int), .int .u64 (xn : Int)] 30) := ⟨_, rfl⟩
      have hbW : Below w5.heap.size w5 W := by rw [hW]; exact (Below.refl _ w5).alloc (Nat.le_refl _) _
      have hb4 := hb5.trans (hbW.mono hb5.size)
      obtain ⟨e0, e1, e2, e3, e4⟩ := mbox w5 ⟨xk, xb, xc, xo, xn⟩
      rw [show boxed w5 ⟨xk, xb, xc, xo, xn⟩ = W from hW.symm] at e0 e1 e2 e3 e4
      dsimp only at e0 e1 e2 e3 e4
      obtain ⟨t2, t3, t4, t5, t6, t7, -⟩ := HT3.out.below hb4
      dsimp only at t3 t4 t5 t6 t7
      have HG5 := Lib.hid (HG3.out.below hb4)
      have HA5 := Lib.hid (HA3.out.below hb4)
      have HB5 := Lib.hid (HB3.out.trans (hb4.mono HB3.out.size))
      clear hb5 hbW hb4 KA KR HG3 HT3 HB3 HA3
      go_wp2_with fail
      rw [← hW]
      clear hW
      generalize w5.heap.size = z5 at e0 e1 e2 e3 e4 ⊢
      have q1 := ne_act xk xb xc xo xn xk xb xc xo xn
      rw [eqB_self] at q1
      clear HMB HXX HRR
      cases M <;> cases R
      all_goals
        go_quiet (fail)
        obtain ⟨V, hV⟩ : ∃ V, V = W.drewN nq := ⟨_, rfl⟩
        rw [← hV]
        have hbV : Below W.heap.size W V := by rw [hV]; exact below_drewN (Below.refl _ W) nq
        have HG6 := Lib.hid (HG5.out.below hbV)
        have HA6 := Lib.hid (HA5.out.below hbV)
        have HB6 := Lib.hid (HB5.out.trans (hbV.mono HB5.out.size))
        clear hV hbV HG5 HB5 HA5 t2 t3 t4 t5 t6 t7 e0 e1 e2 e3 e4 q1
        by_cases hlt2 : n < m
        · obtain ⟨b0, off, rfl, hcell⟩ := sl_at (HS.out.below (HZ.out ▸ HB6.out)) (show n < gs.length by rw [← HMM.out]; exact hlt2)
          have KT2 := Lib.hid (HT.out V q n HG6.out (by rw [← HMM.out]; exact hlt2))
          have hlt2Z : (n : Int) < (m : Int) := by omega
          generalize gs.getD n 0 = y at hcell KT2
          go_wp2_with fail
          with_reducible refine KT2.out.mono ?_
          rintro e w6 ⟨rfl, hG7, ht6⟩
          have HG7 := Lib.hid hG7
          have HA7 := Lib.hid (HA6.out.tn ht6)
          have HB7 := Lib.hid (HB6.out.trans (ht6.below (fun k hk => by have := HQ.out; have := HZ.out; omega) HB6.out.size))
          clear hG7 ht6 KT2 HB6 HG6 HA6
          go_wp2
          go_roundw
          case rel => exact ⟨n + 1, by omega, by go_num, by rw [Nat.min_eq_left (by omega)]; exact HG7.out, HA7.out, HB7.out⟩
          case measure => simp [intOf]; omega
        · have hlt2Z : ¬ (n : Int) < (m : Int) := by omega
          go_wp2
          go_roundw
          case rel => exact ⟨n + 1, by omega, by go_num, by rw [Nat.min_eq_right (by omega), show m = n by omega]; exact HG6.out, HA6.out, HB6.out⟩
          case measure => simp [intOf]; omega
    · obtain rfl : n = m + 1 := by omega
      have HB := Lib.hid hBb
      have K9 := Lib.hid (AW.out wr)
      clear hBb hG hAs
      go_wp2_with fail
      with_reducible refine K9.out.mono ?_
      rintro e w9 ⟨rfl, hb9⟩
      have BF := Lib.hid (HB.out.trans (hb9.mono HB.out.size))
      clear hb9
      go_wp2
      go_ret
      exact ⟨rfl, BF.out⟩
end Go.Proofs.Ytdbolhalgbiggaa
