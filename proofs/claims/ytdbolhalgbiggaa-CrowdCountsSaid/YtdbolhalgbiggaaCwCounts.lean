/-
  The walk of CrowdCounts. By an AI agent.
-/
import Derived.Test.YtdbolhalgbiggaaCwRun
import Derived.Test.YtdbolhalgbiggaaCwActs
set_option linter.unusedSimpArgs false
set_option linter.unusedVariables false
namespace Go.Proofs.Ytdbolhalgbiggaa
open Go.RowKit Go.Maps
open Mm (Mem Blk)
open Ac (A)
/-- Where a byte of a slice lies. -/
theorem sl_at8 {w : World} {B n : Nat} {ad : Option Addr} {gs : List Nat} (h : Sl .u8 w B ad (Kr.up gs)) (hn : n < gs.length) : ∃ b0 off, ad = some ⟨b0, off, none⟩ ∧ b0 < B ∧ w.cell? ⟨b0, off + n, none⟩ = some (.int .u8 ((gs.getD n 0 : Nat) : Int)) := by
  rcases h with h0 | ⟨b0, off, e, hb0, hc0⟩
  · have : (Kr.up gs).length = 0 := by rw [h0]; rfl
    rw [Kr.up_len] at this; omega
  · refine ⟨b0, off, e, hb0, ?_⟩
    have := hc0 n (by rw [Kr.up_len]; exact hn)
    rwa [Kr.up_get hn] at this
theorem tm64 (y : Nat) : (y : Int).tmod 64 = ((y % 64 : Nat) : Int) := by rw [Int.tmod_eq_emod_of_nonneg (by omega)]; omega
theorem strp64 {y t j : Nat} (ht : t = y % 64) (hj : j = y % 4) : Tb.strp (t : Int) = ((3 + j : Nat) : Int) := by unfold Tb.strp; omega
theorem wr256 {y : Nat} (h : y < 256) : wrap64 (y : Int) = (y : Int) := by unfold wrap64; omega
theorem iw256 {y : Nat} (h : y < 256) : IntKind.i64.wrap (y : Int) = (y : Int) := IntWalk.i64_in _ (by omega)
theorem mod64_lt {y t : Nat} (ht : t = y % 64) : t < 256 := by omega
theorem mod4_lt {y j : Nat} (hj : j = y % 4) : j < 4 := by omega
set_option maxHeartbeats 1000000 in
theorem ccounts_out (L : Int) (A : Option Addr) (len c : Nat) (w : World) (hl : len ≤ maxLen) (h : 80 < len) :
    Calls Try.prog 4 #[.int .u8 L, .slice A len c] w (Gives (.bool true) w) := by
  unfold maxLen at hl
  have AW := Lib.hid (awake_any w)
  go_enter Try.func4, Try.ntmps4
  go_wp2_with fail
  with_reducible refine AW.out.mono ?_
  rintro e w' ⟨rfl, hb⟩
  go_wp2
  go_ret
  exact ⟨rfl, hb⟩
set_option maxRecDepth 100000 in
set_option maxHeartbeats 8000000 in
theorem ccounts_in (L : Nat) (hL : L ≤ 255) (ts : List Nat) (hts : ∀ x ∈ ts, x < 256) (ad : Option Addr) (cap : Nat) (w : World) (hm : ts.length ≤ 80) (hc : ts.length ≤ cap) (hc2 : cap ≤ maxLen) (hs : Sl .u8 w w.heap.size ad (Kr.up ts)) :
    Calls Try.prog 4 #[.int .u8 (L : Int), .slice ad ts.length cap] w (Gives (.bool true) w) := by
  unfold maxLen at hc2
  obtain ⟨k, hk⟩ : ∃ k, k = L % 4 := ⟨_, rfl⟩
  have hk4 : k < 4 := by omega
  have hgr : Tb.grp (k : Int) = 2 ^ k := by rw [Tb.grp_in (by omega) (by omega), Int.toNat_natCast]
  obtain ⟨g, hg⟩ : ∃ g, g = 2 ^ k := ⟨_, rfl⟩
  rw [← hg] at hgr
  have hg8 : 1 ≤ g ∧ g ≤ 8 := by
    obtain rfl | rfl | rfl | rfl : k = 0 ∨ k = 1 ∨ k = 2 ∨ k = 3 := by omega
    all_goals (subst hg; decide)
  have hr : Tb.right ((1 : Nat) : Int) (Tb.grp (k : Int)) = true := by
    rw [hgr]; unfold Tb.right; simp; omega
  obtain ⟨sz, hsz⟩ : ∃ sz, sz = 7 + 9 * g := ⟨_, rfl⟩
  have KSZ : Hid (∀ W, Calls Try.prog 16 #[.int .i64 (k : Int)] W (Same (.int .i64 (sz : Int)) W)) := Lib.hid (fun W => by
    have := tsize_any (k : Int) W
    rwa [hgr, Tb.size_pos (by omega), show 7 + 9 * (g : Int) = (sz : Int) by omega] at this)
  have KNA : Hid (∀ W : World, Calls Try.prog 14 #[.int .i64 200] W fun e w' => e = .returned (.pointer (some ⟨W.heap.size + 1, 0, none⟩)) ∧ ∃ F, Ax W.heap.size w' (W.heap.size + 1) ⟨200, 0, 0, []⟩ F ∧ Below W.heap.size W w' ∧ W.heap.size + 2 = w'.heap.size) := Lib.hid (fun W => new_ok 200 (by omega) (by omega) W)
  have AW := Lib.hid (fun W => awake_any W)
  have KN : Hid (∀ W, Calls Try.prog 6 #[.agg #[.int .u64 1, .int .i64 (k : Int)]] W (Cnew 1 (k : Int) W)) := Lib.hid (fun W => cnew_any 1 (k : Int) W)
  have x1 : (L : Int).tmod 4 = (k : Int) := by rw [Int.tmod_eq_emod_of_nonneg (by omega)]; omega
  have HSZ := Lib.hid (show 7 ≤ sz ∧ 1 ≤ sz ∧ sz ≤ 200 by omega)
  have HS := Lib.hid hs
  obtain ⟨m, hmm⟩ : ∃ m, m = ts.length := ⟨_, rfl⟩
  rw [← hmm] at hm hc ⊢
  have HM := Lib.hid hmm
  have a3 : ¬ (80 : Int) < (m : Int) := by omega
  have HG := Lib.hid hgr
  have HR := Lib.hid hr
  have HT := Lib.hid hts
  have HK := Lib.hid (show k < 4 ∧ g = 2 ^ k from ⟨hk4, hg⟩)
  clear hmm hs hsz hr hg hgr hts hk
  go_enter Try.func4, Try.ntmps4
  go_wp2_with fail
  with_reducible refine (KNA.out _).mono ?_
  rintro e w2 ⟨rfl, F, hA, hb2, hs2⟩
  obtain ⟨C, hC⟩ : ∃ C, C = w.heap.size := ⟨_, rfl⟩
  have HCC := Lib.hid hC
  rw [← hC] at hA hb2 hs2 ⊢
  clear hC
  have HC2 := Lib.hid (show C ≤ w2.heap.size by omega)
  have HA2 := Lib.hid hA
  have HB2 := Lib.hid hb2
  have K4 := Lib.hid (alloc_ok hA HC2.out sz HSZ.out.2.1 (by show sz ≤ 200 - 0; have := HSZ.out; omega) (by simp))
  clear hA hb2 hs2 KNA
  go_wp2_with fail
  with_reducible refine (KSZ.out _).mono ?_
  rintro e w3 ⟨rfl, rfl⟩
  go_wp2_with fail
  with_reducible refine K4.out.mono ?_
  rintro e w3 ⟨rfl, F3, hA3, ht3⟩
  have hA3 : Ax C w3 (C + 1) (Mg (List.replicate sz 0)) F3 := hA3
  have hb3 : Below C w2 w3 := ht3.below (fun k hk => (HA2.out.foot hk).1) HC2.out
  obtain ⟨W3, hW3⟩ : ∃ W3, W3 = w3.alloc (.cells #[.int .u64 1, .int .i64 (k : Int)] 24) := ⟨_, rfl⟩
  have hbW : Below w3.heap.size w3 W3 := by rw [hW3]; exact (Below.refl _ w3).alloc (Nat.le_refl _) _
  have HC3 := Lib.hid (show C ≤ w3.heap.size by have := hb3.size; have := HC2.out; omega)
  have HA3 := Lib.hid (hA3.below hbW (Nat.le_refl _))
  have HB3 := Lib.hid (HB2.out.trans (hb3.trans (hbW.mono HC3.out)))
  have HT3 := Lib.hid (show Aside F3 W3 w3.heap.size (.cells #[.int .u64 1, .int .i64 (k : Int)] 24 (0, 0)) from ⟨by rw [hW3]; exact heap_alloc_new w3 _, fun e => by have := (hA3.foot e).2; omega⟩)
  have HC4 := Lib.hid (show C ≤ W3.heap.size by have := hbW.size; have := HC3.out; omega)
  clear hA3 hb3 ht3 hbW K4 HA2 HB2 HC2 KSZ
  go_wp2_with fail
  have e1 : (w3.alloc (.cells #[.int .u64 1, .int .i64 (k : Int)] 24)) = W3 := hW3.symm
  rw [e1]
  clear e1 hW3
  generalize w3.heap.size = z at HT3 HC3 ⊢
  go_wp2
  go_loopw [8] (fun i wr => ∃ (n : Nat) (cs : List Nat) (ws : List Int) (F : Nat → Prop), n ≤ m + 1 ∧ i = .int .i64 (n : Int) ∧ Stp ws cs (min n m) ∧ Ax C wr (C + 1) (Mg ws) F ∧ Aside F wr z (.cells #[.int .u64 1, .int .i64 (k : Int)] 24 (0, 0)) ∧ Below C w wr) (fun i _ => m + 1 - (intOf i).toNat)
  case atStart => exact ⟨0, _, _, F3, by omega, rfl, by rw [Nat.zero_min]; exact Stp.start HSZ.out.1, HA3.out, HT3.out, HB3.out⟩
  case round =>
    clear HA3 HT3 HB3
    obtain ⟨n, cs, ws, F, hn, rfl, hst, hA, hT, hB⟩ := hrel
    by_cases hlt : n ≤ m
    · rw [Nat.min_eq_left hlt] at hst
      have hltZ : (n : Int) ≤ (m : Int) := by omega
      have d0 := hT.cell 0 rfl
      have d1 := hT.cell 1 rfl
      have hCr : C ≤ wr.heap.size := by have := HCC.out; have := hB.size; omega
      have K1 := Lib.hid (KN.out wr)
      have HST := Lib.hid hst
      have HA := Lib.hid hA
      have HTT := Lib.hid hT
      have HB := Lib.hid hB
      have HCR := Lib.hid hCr
      clear hst hA hT hB hCr
      go_wp2_with fail
      with_reducible refine K1.out.mono ?_
      rintro e w4 ⟨q, rfl, hq, hg4, hb4⟩
      have HA4 := Lib.hid (HA.out.below hb4 (Nat.le_refl _))
      have HNQ := Lib.hid (show ¬ F q from fun e => by have := (HA.out.foot e).2; omega)
      have HCQ := Lib.hid (show C ≤ q by have := HCR.out; omega)
      have HZQ := Lib.hid (show z ≠ q by have := HTT.out.lt; omega)
      have HT4 := Lib.hid (HTT.out.below hb4)
      have HB4 := Lib.hid (HB.out.trans (hb4.mono HCR.out))
      have HC5 := Lib.hid (show C ≤ w4.heap.size by have := HCR.out; have := hb4.size; omega)
      have K5 := Lib.hid (calone HA4.out hg4 HCQ.out HNQ.out HC5.out HR.out HST.out)
      clear hq hg4 hb4 K1 HA HTT HB HCR d0 d1
      go_wp2_with fail
      with_reducible refine K5.out.mono ?_
      rintro e w5 ⟨rfl, hb5, F5, H5, hA5, ht5, hg5⟩
      have K6 := cres_any hg5 HR.out (Nat.le_of_eq HST.out.len)
      unfold cres at K6
      rw [show Cw.more cs = false by (unfold Cw.more; rw [HST.out.len]; rfl), Bool.not_false, Bool.true_and, HG.out] at K6
      have K6 := Lib.hid K6
      have HT5 := Lib.hid (show Aside F5 w5 z (.cells #[.int .u64 1, .int .i64 (k : Int)] 24 (0, 0)) by
        have h0 : Aside (Or2 F (fun j => j = q)) w4 z (.cells #[.int .u64 1, .int .i64 (k : Int)] 24 (0, 0)) := ⟨HT4.out.at', fun e => e.elim HT4.out.apart HZQ.out⟩
        have h1 := h0.tn ht5
        exact ⟨h1.at', fun e => h1.apart (.inl e)⟩)
      have HA5 := Lib.hid hA5
      have HB5 := Lib.hid (HB4.out.trans hb5)
      have HC6 := Lib.hid (show C ≤ w5.heap.size by have := HC5.out; have := hb5.size; omega)
      clear hb5 hA5 ht5 hg5 K5 HA4 HT4 HB4 HC5
      obtain ⟨R, hR⟩ : ∃ R, R = Cw.told (7 * g) cs := ⟨_, rfl⟩
      rw [← hR] at K6
      have HRR := Lib.hid (show R = decide (7 * g ≤ n) by
        rw [hR]; unfold Cw.told; rw [HST.out.sum (by omega)])
      clear hR
      go_wp2_with fail
      with_reducible refine K6.out.mono ?_
      rintro e w6 ⟨rfl, hb6⟩
      have HA6 := Lib.hid (HA5.out.below hb6 (Nat.le_refl _))
      have HT6 := Lib.hid (HT5.out.below hb6)
      have HB6 := Lib.hid (HB5.out.trans (hb6.mono HC6.out))
      have HC7 := Lib.hid (show C ≤ w6.heap.size by have := HC6.out; have := hb6.size; omega)
      clear hb6 K6 HA5 HT5 HB5 HC6
      have x2 : decide (wrap64 (7 * 2 ^ k) ≤ (n : Int)) = R := by
        rw [HRR.out]
        obtain ⟨k4, hg⟩ := HK.out
        have e : wrap64 (7 * 2 ^ k) = ((7 * g : Nat) : Int) := by
          rw [hg]
          obtain rfl | rfl | rfl | rfl : k = 0 ∨ k = 1 ∨ k = 2 ∨ k = 3 := by omega
          all_goals (unfold wrap64; decide)
        rw [e, Bool.eq_iff_iff]; simp only [decide_eq_true_eq]; omega
      have x3 : ((!R) == R) = false := by cases R <;> rfl
      clear HRR
      by_cases hlt2 : n < m
      · have hlt2Z : (n : Int) < (m : Int) := by omega
        obtain ⟨b0, off, rfl, hb0, hcell⟩ := sl_at8 (HS.out.below (HCC.out ▸ HB6.out)) (show n < ts.length by rw [← HM.out]; exact hlt2)
        have hy : ts.getD n 0 < 256 := by
          rw [List.getD_eq_getElem?_getD, List.getElem?_eq_getElem (by rw [← HM.out]; exact hlt2)]
          exact HT.out _ (List.getElem_mem _)
        generalize ts.getD n 0 = y at hcell hy
        obtain ⟨j, hj⟩ : ∃ j, j = y % 4 := ⟨_, rfl⟩
        have hj4 : j < 4 := mod4_lt hj
        obtain ⟨t, ht⟩ : ∃ t, t = y % 64 := ⟨_, rfl⟩
        have y1 : wrap64 (y : Int) = (y : Int) := wr256 hy
        have y3 : IntKind.i64.wrap (y : Int) = (y : Int) := iw256 hy
        have y2 : (y : Int).tmod 64 = (t : Int) := by rw [tm64, ← ht]
        have y4 : wrap64 (t : Int) = (t : Int) := wr256 (mod64_lt ht)
        have KO : Hid (∀ W, Calls Try.prog 7 #[.agg #[.int .u64 1, .int .i64 (k : Int)], .int .i64 (t : Int)] W (Gives (.agg #[.int .i64 4, .int .u64 1, .int .i64 ((3 + j : Nat) : Int), .int .u64 0, .int .u64 1]) W)) := Lib.hid (fun W => by
          have := cnote_any 1 (k : Int) (t : Int) W
          rwa [strp64 ht hj] at this)
        have KD : Hid (∀ W, Ax C W (C + 1) (Mg ws) F5 → C ≤ W.heap.size → Calls Try.prog 18 #[.pointer (some ⟨C + 1, 0, none⟩), .agg #[.int .i64 4, .int .u64 1, .int .i64 ((3 + j : Nat) : Int), .int .u64 0, .int .u64 1]] W (Turns (.int .u64 ((cs.getD j 0 : Nat) : Int)) C (C + 1) (Mg (ws.set (3 + j) ((cs.getD j 0 + 1 : Nat) : Int))) F5 W)) := Lib.hid (fun W ha hB => cadd HST.out (by omega) hj4 C W (C + 1) F5 ha hB)
        have HON := Lib.hid (HST.out.one hj4)
        have HBB := Lib.hid (show b0 < C from by rw [HCC.out]; exact hb0)
        generalize 3 + j = st at *
        generalize cs.getD j 0 = v at *
        clear hj ht hj4 hy hb0
        go_wp2
        have HX := Lib.hid (Below.refl w6.heap.size w6).drew
        have HCE := Lib.hid hcell
        have HSS : Hid (∀ W, Below C w6 W → W.cell? ⟨b0, off + n, none⟩ = some (.int .u8 (y : Int))) := Lib.hid (fun W hb => (hb.cell (p := ⟨b0, off + n, none⟩) HBB.out).trans HCE.out)
        clear hcell
        refine wp_region_held_drew (S := fun w' => w'.cell? ⟨z, 0, none⟩ = some (.int .u64 1) ∧ w'.cell? ⟨z, 1, none⟩ = some (.int .i64 (k : Int)) ∧ w'.cell? ⟨b0, off + n, none⟩ = some (.int .u8 (y : Int))) (by kernel_rfl) ⟨(HT6.out.below HX.out).cell 0 rfl, (HT6.out.below HX.out).cell 1 rfl, HSS.out _ (HX.out.mono HC7.out)⟩ (fun hS => ?_)
        have HA7 := Lib.hid (HA6.out.below HX.out (Nat.le_refl _))
        have HT7 := Lib.hid (HT6.out.below HX.out)
        have HB7 := Lib.hid (HB6.out.trans (HX.out.mono HC7.out))
        have HC8 := Lib.hid (show C ≤ w6.drew.heap.size from Nat.le_trans HC7.out HX.out.size)
        have HSX := Lib.hid (HX.out.mono HC7.out)
        generalize w6.drew = W6 at hS HA7 HT7 HB7 HC8 HSX ⊢
        clear HX
        refine wpAnyH_take (i := 0) (v := .pointer (some ⟨C + 1, 0, none⟩)) rfl (by kernel_rfl) (by kernel_rfl) (by kernel_rfl) (fun _ _ _ h => h) (Or.inl ⟨by kernel_rfl, fun w hS => by kernel_rfl⟩) hS ?_
        refine wpAnyH_take (i := 1) (v := .agg #[.int .u64 1, .int .i64 (k : Int)]) rfl (by kernel_rfl) (by kernel_rfl) (by kernel_rfl) (fun _ _ _ h => h) (Or.inl ⟨by kernel_rfl, fun w hS => by obtain ⟨s1, s2, s3⟩ := hS; go_simp⟩) hS ?_
        refine wpAnyH_take (i := 2) (v := .slice (some ⟨b0, off, none⟩) m cap) rfl (by kernel_rfl) (by kernel_rfl) (by kernel_rfl) (fun _ _ _ h => h) (Or.inl ⟨by kernel_rfl, fun w hS => by kernel_rfl⟩) hS ?_
        refine wpAnyH_take (i := 3) (v := .int .i64 (n : Int)) rfl (by kernel_rfl) (by kernel_rfl) (by kernel_rfl) (fun _ _ _ h => h) (Or.inl ⟨by kernel_rfl, fun w hS => by kernel_rfl⟩) hS ?_
        refine wpAnyH_take (i := 4) (v := .pointer (some ⟨b0, off + n, none⟩)) rfl (by kernel_rfl) (by kernel_rfl) (by kernel_rfl) (fun _ _ _ h => h) (Or.inl ⟨by kernel_rfl, fun w hS => by go_simp⟩) hS ?_
        refine wpAnyH_take (i := 5) (v := .int .u8 (y : Int)) rfl (by kernel_rfl) (by kernel_rfl) (by kernel_rfl) (fun _ _ _ h => h) (Or.inl ⟨by kernel_rfl, fun w hS => by obtain ⟨s1, s2, s3⟩ := hS; go_simp⟩) hS ?_
        refine wpAnyH_take (i := 6) (v := .int .i64 (y : Int)) rfl (by kernel_rfl) (by kernel_rfl) (by kernel_rfl) (fun _ _ _ h => h) (Or.inl ⟨by kernel_rfl, fun w hS => by go_simp⟩) hS ?_
        refine wpAnyH_take (i := 7) (v := .int .i64 (t : Int)) rfl (by kernel_rfl) (by kernel_rfl) (by kernel_rfl) (fun _ _ _ h => h) (Or.inl ⟨by kernel_rfl, fun w hS => by go_simp⟩) hS ?_
        refine wpAnyH_ready (rs := [8]) (by kernel_rfl) (by simp) ?_
        refine AllReadyH.cons rfl (fun K hK => ?_) AllReadyH.nil
        go_simp
        go_at_call 7
        refine (KO.out _).mono ?_
        rintro e w8 ⟨rfl, hb8⟩
        have HA8 := Lib.hid (HA7.out.below hb8 (Nat.le_refl _))
        have HT8 := Lib.hid (HT7.out.below hb8)
        have HB8 := Lib.hid (HB7.out.trans (hb8.mono HC8.out))
        have HSY := Lib.hid (HSX.out.trans (hb8.mono HC8.out))
        have HC9 := Lib.hid (Nat.le_trans HC8.out hb8.size)
        have K9 := Lib.hid (KD.out w8 HA8.out HC9.out)
        refine hK.out _ _ ⟨HT8.out.cell 0 rfl, HT8.out.cell 1 rfl, HSS.out _ HSY.out⟩ (fun hS => ?_)
        clear hK K hb8 HA7 HT7 HB7 HC8 HSX
        refine wpAnyH_ready (rs := [9]) (by kernel_rfl) (by simp) ?_
        refine AllReadyH.cons rfl (fun K hK => ?_) AllReadyH.nil
        go_simp
        go_at_call 18
        refine K9.out.mono ?_
        rintro e w9 ⟨rfl, F9, hA9, ht9⟩
        have hb9 : Below C w8 w9 := ht9.below (fun k hk => (HA8.out.foot hk).1) HC9.out
        have HA9 := Lib.hid hA9
        have HT9 := Lib.hid (HT8.out.tn ht9)
        have HB9 := Lib.hid (HB8.out.trans hb9)
        have HSZ2 := Lib.hid (HSY.out.trans hb9)
        refine hK.out _ _ ⟨HT9.out.cell 0 rfl, HT9.out.cell 1 rfl, HSS.out _ HSZ2.out⟩ (fun hS => ?_)
        clear hK K hA9 ht9 hb9
        refine wpAnyH_done (by kernel_rfl) ?_ _
        clear hS
        go_wp2
        go_roundw
        case rel => exact ⟨n + 1, _, _, F9, by omega, by go_num, by rw [Nat.min_eq_left (by omega)]; exact HON.out, HA9.out, HT9.out, HB9.out⟩
        case measure => simp [intOf]; omega
      · have hlt2Z : ¬ (n : Int) < (m : Int) := by omega
        go_wp2
        go_roundw
        case rel => exact ⟨n + 1, cs, ws, F5, by omega, by go_num, by rw [Nat.min_eq_right (by omega), show m = n by omega]; exact HST.out, HA6.out, HT6.out, HB6.out⟩
        case measure => simp [intOf]; omega
    · obtain rfl : n = m + 1 := by omega
      have KF := Lib.hid (show Calls Try.prog 19 #[.pointer (some ⟨C + 1, 0, none⟩)] wr (Same (.int .i64 0) wr) from faults_any hA)
      have HB := Lib.hid hB
      clear hA hT hB hst
      go_wp2_with fail
      with_reducible refine KF.out.mono ?_
      rintro e w6 ⟨rfl, rfl⟩
      go_wp2_with fail
      with_reducible refine (AW.out _).mono ?_
      rintro e w6 ⟨rfl, hb6⟩
      have HB6 := Lib.hid ((HCC.out ▸ HB.out : Below w.heap.size w wr).trans (hb6.mono (HCC.out ▸ HB.out : Below w.heap.size w wr).size))
      clear hb6
      go_wp2
      go_ret
      exact ⟨rfl, HB6.out⟩
end Go.Proofs.Ytdbolhalgbiggaa
