/-
  The walk of the document's Read. By an AI agent. (gen_rread.py)
-/
import Derived.Test.YthgabbkpjffdnaaDoorActRefMath
import Derived.Test.YthgabbkpjffdnaaDoorActCommon
set_option linter.unusedSimpArgs false
set_option linter.unusedVariables false
namespace Go.Proofs.YthgabbkpjffdnaaDoor
open Go.RowKit Go.Maps
open Ac (A)
theorem ba_list (l : List UInt8) : (⟨l.toArray⟩ : ByteArray).toList = l := by rw [ByteArray.toList_eq]
theorem okB_iff {l : List UInt8} {x : A} (hr : Ac.right x = true) : okB l x = ((⟨(tx x).toArray⟩ : ByteArray).toList == (⟨l.toArray⟩ : ByteArray).toList) := by
  rw [ba_list, ba_list]; unfold okB; rw [hr]; rfl
theorem no_next {l : List UInt8} {a b c d K : Nat} (h : ∀ j, j < K → okB l (cand j a b c d) = false) (hk : okB l (cand K a b c d) = false) : ∀ j, j < K + 1 → okB l (cand j a b c d) = false := fun j hj => by
  rcases Nat.lt_or_ge j K with h' | h'
  · exact h j h'
  · obtain rfl : j = K := by omega
    exact hk
set_option maxRecDepth 100000 in
set_option maxHeartbeats 16000000 in
/-- ████ The document's Read. ████ -/
theorem rread_list (l : List UInt8) (hl : l.length ≤ 100000) (w : World) : Calls Tryd.prog 21 #[.string ⟨l.toArray⟩] w (Gives (rdV (rd l)) w) := by
  obtain ⟨W, hW⟩ : ∃ W, W = w.alloc (.cells #[.int .i64 0, .int .u64 0, .int .i64 0, .int .u64 0, .int .u64 0] 26) := ⟨_, rfl⟩
  have HBW : Hid (Below w.heap.size w W) := Lib.hid (by rw [hW]; exact (Below.refl _ _).alloc (Nat.le_refl _) _)
  have HQ0 : Hid (Res w.heap.size W) := Lib.hid (by rw [hW]; exact res_new w)
  have hlp := partsOf_len l
  have KP := Lib.hid (parts_any l (by omega) W)
  obtain ⟨i0, hi, hz0, hz1, hz2⟩ := info_parts info_u64
  have Hz0 := Lib.hid hz0; clear hz0
  have Hz1 := Lib.hid hz1; clear hz1
  have Hz2 := Lib.hid hz2; clear hz2
  have Hi := Lib.hid hi; clear hi
  obtain ⟨s, hs⟩ : ∃ s : ByteArray, s = ⟨l.toArray⟩ := ⟨_, rfl⟩
  rw [← hs] at KP ⊢
  have HS := Lib.hid hs; clear hs
  obtain ⟨ps, hps⟩ : ∃ ps, ps = partsOf l := ⟨_, rfl⟩
  obtain ⟨N, hN⟩ : ∃ N, N = ps.length := ⟨_, rfl⟩
  have hN1 : 1 ≤ N := by
    rw [hN, hps]
    rcases Nat.eq_zero_or_pos (partsOf l).length with h | h
    · exact absurd (List.length_eq_zero_iff.1 h) (partsOf_ne l)
    · exact h
  have hN2 : N ≤ 100001 := by rw [hN, hps]; omega
  have KWd : Hid (∀ (k : Nat) (hk : k < ps.length) (w' : World), Calls Tryd.prog 45 #[.string ⟨ps[k].toArray⟩] w' (Same (.tuple #[.int .u64 (Dt.Dg.wordV ps[k] 20 : Int), .int .i64 (Dt.Dg.wordE ps[k] 20)]) w')) := Lib.hid (fun k hk w' => by
    have hm : ps[k].length ≤ l.length := hlp.2 _ (by rw [← hps]; exact List.getElem_mem hk)
    have := Dt.rword_any ⟨ps[k].toArray⟩ w' (by simp [ByteArray.size, maxLen]; omega)
    exact this.mono fun _ _ h => h)
  rw [← hps] at KP
  have HP := Lib.hid hps
  have HN := Lib.hid hN
  clear hps hN hlp
  go_enter Tryd.func21, Tryd.ntmps21
  go_wp2_with fail
  rw [← hW]
  clear hW
  with_reducible refine KP.out.mono ?_
  rintro e w1 ⟨lv, rfl, hr, hb⟩
  obtain ⟨a, c, rfl, hcells⟩ := row_strs hr
  rw [← HN.out]
  have HR1 := Lib.hid (World.ownsRow_lit (base := W.heap.size) (e := 23) (size := 1) w1 #[] 0 (by have := hb.size; omega) (by decide) (by decide))
  have HB1 := Lib.hid (hb.trans ((Below.refl _ w1).alloc hb.size (.cells #[] 23)))
  have HL1 : Hid (LS a ps (.slice (some ⟨w1.heap.size, 0, none⟩) 0 0) (w1.alloc (.cells #[] 23))) := Lib.hid (fun k hk => by
    obtain ⟨b, ea, -, hlt, hc⟩ := hcells k hk
    refine ⟨b, ea, by simp; omega, ?_, ?_⟩
    · intro e
      have : w1.heap.size = b := by simpa [Value.ownBlock] using e
      omega
    · exact (((Below.refl w1.heap.size w1).alloc (Nat.le_refl _) _).cell (p := ⟨b, k, none⟩) hlt).trans hc)
  clear hr hcells hb KP
  go_wp2_with fail
  go_loopw [5, 6] (fun u iv wr => ∃ (j : Nat), j + 1 ≤ N ∧ iv = .int .i64 ((j + 1 : Nat) : Int) ∧ allW ((ps.drop 1).take j) ∧ wr.ownsRow W.heap.size 23 1 u j (ws (pv ((ps.drop 1).take j))) ∧ LS a ps u wr ∧ Below W.heap.size W wr) (fun _ i _ => N - (intOf i).toNat)
  case atStart => exact ⟨0, hN1, rfl, fun p hp => by simp at hp, HR1.out, HL1.out, HB1.out⟩
  case round =>
    clear HR1 HL1 HB1
    obtain ⟨j, hj, rfl, hall, hr, hls, hb⟩ := hrel
    by_cases hlt : j + 1 < N
    · have hltZ : ((j + 1 : Nat) : Int) < (N : Int) := by omega
      have hk : j + 1 < ps.length := by rw [← HN.out]; exact hlt
      obtain ⟨b, rfl, -, -, hc⟩ := hls (j + 1) hk
      have KW1 := Lib.hid (KWd.out (j + 1) hk wr)
      have HT : Hid ((ps.drop 1).take (j + 1) = (ps.drop 1).take j ++ [ps[j + 1]]) := Lib.hid (by
        rw [List.take_succ_eq_append_getElem (by simp; omega)]
        simp)
      have HM : Hid (ps[j + 1] ∈ (partsOf l).drop 1) := Lib.hid (by
        rw [← HP.out]
        have : ps[j + 1] = (ps.drop 1)[j]'(by simp; omega) := by simp
        rw [this]; exact List.getElem_mem _)
      have HRow := Lib.hid hr
      have HB := Lib.hid hb
      have HLS := Lib.hid hls
      have HAll := Lib.hid hall
      generalize ps[j + 1] = q at hc KW1 HT HM
      obtain ⟨j1, hj1⟩ : ∃ j1, j1 = j + 1 := ⟨_, rfl⟩
      rw [← hj1] at hltZ hc ⊢
      have HJ := Lib.hid hj1
      clear hr hb hls hall hj1
      by_cases hw : Dt.Dg.wordE q 20 = 0
      · have hwB : (Dt.Dg.wordE q 20 != 0) = false := by rw [bne_eq_false_iff_eq]; exact hw
        have HW := Lib.hid hw
        generalize Dt.Dg.wordE q 20 = ee at KW1 hwB
        clear hw
        go_wp2_with fail
        with_reducible refine KW1.out.mono ?_
        rintro e w' ⟨rfl, rfl⟩
        go_wp2_with (at_builtin; refine wpList_append_own_at _ rfl _ _ 38 rfl W.heap.size 23 i0 (.int .u64 0) 1 8 Tryd.underlying38 Hi.out Hz0.out Hz1.out Hz2.out rfl (by decide) _ _ _ rfl (HRow.out.alloc _) ⟨wr.heap.size, 0, none⟩ 1 1 [.int .u64 (Dt.Dg.wordV q 20 : Int)] rfl rfl (cell_one_new _ _ _) (by simp [Value.oneCell']) (by unfold maxLen; omega) (by omega) (by have := HB.out.size; simp; omega) ?_; intro v' w3 hown' hgrow _ hat')
        go_roundw
        case rel =>
          refine ⟨j + 1, by omega, by rw [HJ.out]; go_num, ?_, ?_, HLS.out.grow hgrow hat', HB.out.trans (((Below.refl _ wr).alloc HB.out.size _).trans ⟨hgrow.os, hgrow.tape, hgrow.output, hgrow.size, fun j hj => hgrow.block j (by have := HB.out.size; simp; omega) (fun e => by have := (HRow.out.lt j e.symm).1; omega)⟩)⟩
          · rw [HT.out]
            intro p hp
            rcases List.mem_append.1 hp with hp | hp
            · exact HAll.out p hp
            · simp at hp; subst hp; exact HW.out
          · rw [HT.out]
            have e : ws (pv ((ps.drop 1).take j ++ [q])) = ws (pv ((ps.drop 1).take j)) ++ [.int .u64 (Dt.Dg.wordV q 20 : Int)] := by simp [ws, pv]
            rw [e]
            exact hown'
        case measure => have := HJ.out; simp [intOf]; omega
      · have hwB : (Dt.Dg.wordE q 20 != 0) = true := by rw [bne_iff_ne]; exact hw
        have e : rd l = none := rd_bad HM.out hw
        rw [e]
        have HQ := Lib.hid (HQ0.out.keep HB.out)
        generalize Dt.Dg.wordE q 20 = ee at KW1 hwB
        clear hw e
        go_wp2_with fail
        with_reducible refine KW1.out.mono ?_
        rintro e w' ⟨rfl, rfl⟩
        obtain ⟨q0, q1, q2, q3, q4, qz⟩ := HQ.out.cells
        go_wp2
        clear q0 q1 q2 q3 q4 qz
        show bodyPost _ _ _ _ _ (five _ w.heap.size 0 0 0 0 0)
        obtain ⟨g0, g1, g2, g3, g4⟩ := five_cells HQ.out 0 0 0 0 0
        exact bodyPost_ret (v := readV 0 0 0 0 0 3) (by simp [readV, results, Tryd.results21, go_sem, g0, g1, g2, g3, g4]) rfl ⟨rfl, five_below (HBW.out.trans (HB.out.mono HBW.out.size)) (Nat.le_refl _) _ _ _ _ _⟩
    · have hjN : j + 1 = N := by omega
      have hm : ¬ ((j + 1 : Nat) : Int) < (N : Int) := by omega
      have HT : Hid ((ps.drop 1).take j = (partsOf l).drop 1) := Lib.hid (by
        rw [← HP.out]
        exact List.take_of_length_le (by have := HN.out; simp; omega))
      rw [HT.out] at hr
      obtain ⟨T, hT⟩ : ∃ T, T = (partsOf l).drop 1 := ⟨_, rfl⟩
      rw [← hT] at hr
      have HTT := Lib.hid hT
      have hjT : (pv T).length = j := by
        have e1 : (ps.drop 1).length = j := by have := HN.out; simp; omega
        rw [hT, ← HP.out]
        simpa [pv] using e1
      obtain ⟨j1, hj1⟩ : ∃ j1, j1 = j + 1 := ⟨_, rfl⟩
      have hj100 : j ≤ 100001 := by omega
      rw [← hj1] at hm ⊢
      have HRow := Lib.hid hr
      have HB := Lib.hid hb
      have HjT := Lib.hid hjT
      clear hr hb hls hall hT hlt hjT hj1 hjN
      go_wp2_with fail
      clear hm
      go_loopw [5] (fun u wr => ∃ (i : Nat), wr.ownsRow W.heap.size 23 1 u (j + i) (ws (pv T ++ List.replicate i 0)) ∧ i ≤ 4 ∧ Below W.heap.size W wr) (fun u _ => match u with | .slice _ n _ => 4 - n | _ => 0)
      case atStart => exact ⟨0, by simpa using HRow.out, by omega, HB.out⟩
      case round =>
        clear HRow HB
        obtain ⟨i, hr, hi4, hb⟩ := hrel
        obtain ⟨ua, uc, hu⟩ : ∃ a c, u5 = .slice a (j + i) c := by
          rcases hr.2 with ⟨rfl, h0⟩ | ⟨g, cap, cur, rfl, _⟩
          · exact ⟨none, 0, by rw [h0]⟩
          · exact ⟨_, _, rfl⟩
        subst hu
        obtain ⟨ji, hji⟩ : ∃ ji, ji = j + i := ⟨_, rfl⟩
        rw [← hji] at hr ⊢
        have HRow := Lib.hid hr
        have HB := Lib.hid hb
        clear hr hb
        by_cases hlt4 : ji < 4
        · have h4Z : (ji : Int) < 4 := by omega
          go_wp2_with (at_builtin; refine wpList_append_own_at _ rfl _ _ 38 rfl W.heap.size 23 i0 (.int .u64 0) 1 8 Tryd.underlying38 Hi.out Hz0.out Hz1.out Hz2.out rfl (by decide) _ _ _ rfl (HRow.out.alloc _) ⟨wr.heap.size, 0, none⟩ 1 1 [.int .u64 0] rfl rfl (cell_one_new _ _ _) (by simp [Value.oneCell']) (by unfold maxLen; omega) (by omega) (by have := HB.out.size; simp; omega) ?_; intro v' w3 hown' hgrow _ hat')
          go_roundw
          case rel =>
            refine ⟨i + 1, ?_, by omega, HB.out.trans (((Below.refl _ wr).alloc HB.out.size _).trans ⟨hgrow.os, hgrow.tape, hgrow.output, hgrow.size, fun j hj => hgrow.block j (by have := HB.out.size; simp; omega) (fun e => by have := (HRow.out.lt j e.symm).1; omega)⟩)⟩
            have e : ws (pv T ++ List.replicate (i + 1) 0) = ws (pv T ++ List.replicate i 0) ++ [.int .u64 0] := by simp [ws, List.replicate_succ']
            rw [e, ← Nat.add_assoc, ← hji]
            exact hown'
          case measure =>
            obtain ⟨ua', uc', hu'⟩ : ∃ a c, v' = .slice a (ji + 1) c := by
              rcases hown'.2 with ⟨rfl, h0⟩ | ⟨g, cap, cur, rfl, _⟩
              · omega
              · exact ⟨_, _, rfl⟩
            subst hu'
            simp; omega
        · have h4Z : ¬ (ji : Int) < 4 := by omega
          have HF : Hid (Four W wr (.slice ua ji uc) (pv T)) := Lib.hid (four_of (j := i) (by rw [List.length_append, HjT.out, List.length_replicate, ← hji]; exact HRow.out) (by rw [List.length_append, HjT.out, List.length_replicate, ← hji]; omega))
          obtain ⟨w5, hw5⟩ : ∃ w5, w5 = wr := ⟨_, rfl⟩
          rw [← hw5] at HF HB ⊢
          clear hw5
          obtain ⟨g, M, cc, eu, hM4, hlt, f0, f1, f2, f3⟩ := HF.out.row
          injection eu with eu1 eu2 eu3
          subst eu1 eu2 eu3
          rw [pv_getD] at f0 f1 f2 f3
          have HLT := And.intro (pn_lt T 0) (And.intro (pn_lt T 1) (And.intro (pn_lt T 2) (pn_lt T 3)))
          have HRN : Hid ((∀ j, j < 7 → okB l (cand j ((pn T).getD 0 0) ((pn T).getD 1 0) ((pn T).getD 2 0) ((pn T).getD 3 0)) = false) → rd l = none) := Lib.hid (fun h => by rw [HTT.out] at h; exact rd_none h)
          generalize (pn T).getD 0 0 = a at f0 HLT HRN
          generalize (pn T).getD 1 0 = b at f1 HLT HRN
          generalize (pn T).getD 2 0 = c at f2 HLT HRN
          generalize (pn T).getD 3 0 = d at f3 HLT HRN
          have HFit : Hid (∀ k, Fits (cand k a b c d) ∧ (cand k a b c d).c ≤ 999999999999999999) := Lib.hid (fun k => cand_fits k HLT.1 HLT.2.1 HLT.2.2.1 HLT.2.2.2)
          have HC : Hid (∀ w', Below w5.heap.size w5 w' → w'.cell? ⟨g, 0, none⟩ = some (.int .u64 (a : Int)) ∧ w'.cell? ⟨g, 1, none⟩ = some (.int .u64 (b : Int)) ∧ w'.cell? ⟨g, 2, none⟩ = some (.int .u64 (c : Int)) ∧ w'.cell? ⟨g, 3, none⟩ = some (.int .u64 (d : Int))) := Lib.hid (fun w' hb => ⟨(hb.cell (p := ⟨g, 0, none⟩) hlt).trans f0, (hb.cell (p := ⟨g, 1, none⟩) hlt).trans f1, (hb.cell (p := ⟨g, 2, none⟩) hlt).trans f2, (hb.cell (p := ⟨g, 3, none⟩) hlt).trans f3⟩)
          have HB5 := HB
          have HG := Lib.hid hlt
          have m0 : (0 : Int) < (ji : Int) := by omega
          have m1 : (1 : Int) < (ji : Int) := by omega
          have m2 : (2 : Int) < (ji : Int) := by omega
          have m3 : (3 : Int) < (ji : Int) := by omega
          clear f0 f1 f2 f3 hlt HF HRow HB HLT hM4 Hi Hz0 Hz1 Hz2 HTT HjT hlt4
          go_wp2_with fail
          clear h4Z
          go_loopw [9] (fun kv wr => ∃ (k : Nat), k ≤ 7 ∧ kv = .int .i64 (k : Int) ∧ (∀ j, j < k → okB l (cand j a b c d) = false) ∧ Below w5.heap.size w5 wr) (fun k _ => 7 - (intOf k).toNat)
          case atStart => exact ⟨0, by omega, rfl, fun j hj => by omega, Below.refl _ _⟩
          case round =>
            obtain ⟨k, hk, rfl, hno, hb⟩ := hrel
            obtain ⟨f0, f1, f2, f3⟩ := HC.out _ hb
            have hgw : g < wr.heap.size := Nat.lt_of_lt_of_le HG.out hb.size
            have HNo := Lib.hid hno
            have HB := Lib.hid hb
            clear hno hb
            obtain h | h | h | h | h | h | h | h : k = 0 ∨ k = 1 ∨ k = 2 ∨ k = 3 ∨ k = 4 ∨ k = 5 ∨ k = 6 ∨ k = 7 := by omega
            · subst h
              rw [show ((0 : Nat) : Int) = 0 from rfl]
              have HX : Hid (cand 0 a b c d = (⟨0, 0, 0, 0, 0⟩ : A)) := Lib.hid (by simp [cand])
              have KR : Hid (∀ w', Calls Tryd.prog 11 #[.agg #[.int .i64 0, .int .u64 0, .int .i64 0, .int .u64 0, .int .u64 0]] w' (Gives (.bool (Ac.right (⟨0, 0, 0, 0, 0⟩ : A))) w')) := Lib.hid fun w' => rright_any (⟨0, 0, 0, 0, 0⟩ : A) w'
              have KT : Hid (∀ w', Calls Tryd.prog 23 #[.agg #[.int .i64 0, .int .u64 0, .int .i64 0, .int .u64 0, .int .u64 0]] w' (Gives (.string ⟨(tx (⟨0, 0, 0, 0, 0⟩ : A)).toArray⟩) w')) := Lib.hid fun w' => rtext_any (⟨0, 0, 0, 0, 0⟩ : A) (by have h := (HFit.out 0).1; rw [HX.out] at h; exact h) w'
              have HO : Hid (Ac.right (⟨0, 0, 0, 0, 0⟩ : A) = false → okB l (cand 0 a b c d) = false) := Lib.hid (fun h => by rw [HX.out]; unfold okB; rw [h]; rfl)
              have HO2 : Hid (Ac.right (⟨0, 0, 0, 0, 0⟩ : A) = true → okB l (cand 0 a b c d) = ((⟨(tx (⟨0, 0, 0, 0, 0⟩ : A)).toArray⟩ : ByteArray).toList == s.toList)) := Lib.hid (fun h => by rw [HX.out, okB_iff h, ← HS.out])
              generalize Ac.right (⟨0, 0, 0, 0, 0⟩ : A) = rb at KR HO HO2
              generalize (⟨(tx (⟨0, 0, 0, 0, 0⟩ : A)).toArray⟩ : ByteArray) = tb at KT HO2
              cases rb with
              | false =>
                have HE := HO.out rfl
                go_wp2_with fail
                with_reducible refine (KR.out _).mono ?_
                rintro e w6 ⟨rfl, hb6⟩
                obtain ⟨e0, e1, e2, e3, e4⟩ := box5 hb6
                have B6 := Lib.hid (HB.out.alloc HB.out.size (.cells #[.int .i64 0, .int .u64 0, .int .i64 0, .int .u64 0, .int .u64 0] 26))
                have B6 := Lib.hid (B6.out.trans (hb6.mono B6.out.size))
                clear hb6
                go_wp2
                go_roundw
                case rel => exact ⟨1, by omega, by rfl, no_next HNo.out HE, B6.out⟩
                case measure => simp [intOf]
              | true =>
                have HE := HO2.out rfl
                cases hq : (tb.toList == s.toList) with
                | false =>
                  rw [hq] at HE
                  go_wp2_with fail
                  with_reducible refine (KR.out _).mono ?_
                  rintro e w6 ⟨rfl, hb6⟩
                  obtain ⟨e0, e1, e2, e3, e4⟩ := box5 hb6
                  have B6 := Lib.hid (HB.out.alloc HB.out.size (.cells #[.int .i64 0, .int .u64 0, .int .i64 0, .int .u64 0, .int .u64 0] 26))
                  have B6 := Lib.hid (B6.out.trans (hb6.mono B6.out.size))
                  go_wp2_with fail
                  with_reducible refine (KT.out _).mono ?_
                  rintro e w7 ⟨rfl, hb7⟩
                  clear e0 e1 e2 e3 e4
                  have hb67 := hb6.trans (hb7.mono hb6.size)
                  obtain ⟨e0, e1, e2, e3, e4⟩ := box5 hb67
                  have B7 := Lib.hid (B6.out.trans (hb7.mono B6.out.size))
                  clear hb6 hb7 hb67
                  go_wp2
                  go_roundw
                  case rel => exact ⟨1, by omega, by rfl, no_next HNo.out HE, B7.out⟩
                  case measure => simp [intOf]
                | true =>
                  rw [hq] at HE
                  have er : rd l = some (⟨0, 0, 0, 0, 0⟩ : A) := by rw [← HX.out]; exact rd_ok HE (HFit.out 0).1 (HFit.out 0).2
                  rw [er]
                  clear er
                  go_wp2_with fail
                  with_reducible refine (KR.out _).mono ?_
                  rintro e w6 ⟨rfl, hb6⟩
                  obtain ⟨e0, e1, e2, e3, e4⟩ := box5 hb6
                  have B6 := Lib.hid (HB.out.alloc HB.out.size (.cells #[.int .i64 0, .int .u64 0, .int .i64 0, .int .u64 0, .int .u64 0] 26))
                  have B6 := Lib.hid (B6.out.trans (hb6.mono B6.out.size))
                  go_wp2_with fail
                  with_reducible refine (KT.out _).mono ?_
                  rintro e w7 ⟨rfl, hb7⟩
                  clear e0 e1 e2 e3 e4
                  have hb67 := hb6.trans (hb7.mono hb6.size)
                  obtain ⟨e0, e1, e2, e3, e4⟩ := box5 hb67
                  have B7 := Lib.hid (B6.out.trans (hb7.mono B6.out.size))
                  clear hb6 hb7 hb67
                  have HQ := Lib.hid ((HQ0.out.keep HB5.out).keep B7.out)
                  obtain ⟨q0, q1, q2, q3, q4, qz⟩ := HQ.out.cells
                  go_wp2
                  clear q0 q1 q2 q3 q4 qz e0 e1 e2 e3 e4
                  show bodyPost _ _ _ _ _ (five _ w.heap.size 0 0 0 0 0)
                  obtain ⟨g0, g1, g2, g3, g4⟩ := five_cells HQ.out 0 0 0 0 0
                  have hbw := HBW.out.trans ((HB5.out.trans (B7.out.mono HB5.out.size)).mono HBW.out.size)
                  exact bodyPost_ret (v := readV 0 0 0 0 0 0) (by simp [readV, results, Tryd.results21, go_sem, g0, g1, g2, g3, g4]) rfl ⟨rfl, five_below hbw (Nat.le_refl _) _ _ _ _ _⟩
            · subst h
              rw [show ((1 : Nat) : Int) = 1 from rfl]
              by_cases hcl : 999999999999999999 < b
              · have hclZ : (999999999999999999 : Int) < (b : Int) := by omega
                have HCl := Lib.hid hcl; clear hcl
                have HX : Hid (cand 1 a b c d = (⟨1, a, 0, 0, 0⟩ : A)) := Lib.hid (by simp [cand, clamp, HCl.out])
                have KR : Hid (∀ w', Calls Tryd.prog 11 #[.agg #[.int .i64 1, .int .u64 (a : Int), .int .i64 0, .int .u64 0, .int .u64 0]] w' (Gives (.bool (Ac.right (⟨1, a, 0, 0, 0⟩ : A))) w')) := Lib.hid fun w' => rright_any (⟨1, a, 0, 0, 0⟩ : A) w'
                have KT : Hid (∀ w', Calls Tryd.prog 23 #[.agg #[.int .i64 1, .int .u64 (a : Int), .int .i64 0, .int .u64 0, .int .u64 0]] w' (Gives (.string ⟨(tx (⟨1, a, 0, 0, 0⟩ : A)).toArray⟩) w')) := Lib.hid fun w' => rtext_any (⟨1, a, 0, 0, 0⟩ : A) (by have h := (HFit.out 1).1; rw [HX.out] at h; exact h) w'
                have HO : Hid (Ac.right (⟨1, a, 0, 0, 0⟩ : A) = false → okB l (cand 1 a b c d) = false) := Lib.hid (fun h => by rw [HX.out]; unfold okB; rw [h]; rfl)
                have HO2 : Hid (Ac.right (⟨1, a, 0, 0, 0⟩ : A) = true → okB l (cand 1 a b c d) = ((⟨(tx (⟨1, a, 0, 0, 0⟩ : A)).toArray⟩ : ByteArray).toList == s.toList)) := Lib.hid (fun h => by rw [HX.out, okB_iff h, ← HS.out])
                generalize Ac.right (⟨1, a, 0, 0, 0⟩ : A) = rb at KR HO HO2
                generalize (⟨(tx (⟨1, a, 0, 0, 0⟩ : A)).toArray⟩ : ByteArray) = tb at KT HO2
                cases rb with
                | false =>
                  have HE := HO.out rfl
                  go_wp2_with fail
                  with_reducible refine (KR.out _).mono ?_
                  rintro e w6 ⟨rfl, hb6⟩
                  obtain ⟨e0, e1, e2, e3, e4⟩ := box5 hb6
                  have B6 := Lib.hid (HB.out.alloc HB.out.size (.cells #[.int .i64 1, .int .u64 (a : Int), .int .i64 0, .int .u64 0, .int .u64 0] 26))
                  have B6 := Lib.hid (B6.out.trans (hb6.mono B6.out.size))
                  clear hb6
                  go_wp2
                  go_roundw
                  case rel => exact ⟨2, by omega, by rfl, no_next HNo.out HE, B6.out⟩
                  case measure => simp [intOf]
                | true =>
                  have HE := HO2.out rfl
                  cases hq : (tb.toList == s.toList) with
                  | false =>
                    rw [hq] at HE
                    go_wp2_with fail
                    with_reducible refine (KR.out _).mono ?_
                    rintro e w6 ⟨rfl, hb6⟩
                    obtain ⟨e0, e1, e2, e3, e4⟩ := box5 hb6
                    have B6 := Lib.hid (HB.out.alloc HB.out.size (.cells #[.int .i64 1, .int .u64 (a : Int), .int .i64 0, .int .u64 0, .int .u64 0] 26))
                    have B6 := Lib.hid (B6.out.trans (hb6.mono B6.out.size))
                    go_wp2_with fail
                    with_reducible refine (KT.out _).mono ?_
                    rintro e w7 ⟨rfl, hb7⟩
                    clear e0 e1 e2 e3 e4
                    have hb67 := hb6.trans (hb7.mono hb6.size)
                    obtain ⟨e0, e1, e2, e3, e4⟩ := box5 hb67
                    have B7 := Lib.hid (B6.out.trans (hb7.mono B6.out.size))
                    clear hb6 hb7 hb67
                    go_wp2
                    go_roundw
                    case rel => exact ⟨2, by omega, by rfl, no_next HNo.out HE, B7.out⟩
                    case measure => simp [intOf]
                  | true =>
                    rw [hq] at HE
                    have er : rd l = some (⟨1, a, 0, 0, 0⟩ : A) := by rw [← HX.out]; exact rd_ok HE (HFit.out 1).1 (HFit.out 1).2
                    rw [er]
                    clear er
                    go_wp2_with fail
                    with_reducible refine (KR.out _).mono ?_
                    rintro e w6 ⟨rfl, hb6⟩
                    obtain ⟨e0, e1, e2, e3, e4⟩ := box5 hb6
                    have B6 := Lib.hid (HB.out.alloc HB.out.size (.cells #[.int .i64 1, .int .u64 (a : Int), .int .i64 0, .int .u64 0, .int .u64 0] 26))
                    have B6 := Lib.hid (B6.out.trans (hb6.mono B6.out.size))
                    go_wp2_with fail
                    with_reducible refine (KT.out _).mono ?_
                    rintro e w7 ⟨rfl, hb7⟩
                    clear e0 e1 e2 e3 e4
                    have hb67 := hb6.trans (hb7.mono hb6.size)
                    obtain ⟨e0, e1, e2, e3, e4⟩ := box5 hb67
                    have B7 := Lib.hid (B6.out.trans (hb7.mono B6.out.size))
                    clear hb6 hb7 hb67
                    have HQ := Lib.hid ((HQ0.out.keep HB5.out).keep B7.out)
                    obtain ⟨q0, q1, q2, q3, q4, qz⟩ := HQ.out.cells
                    go_wp2
                    clear q0 q1 q2 q3 q4 qz e0 e1 e2 e3 e4
                    show bodyPost _ _ _ _ _ (five _ w.heap.size 1 (a : Int) 0 0 0)
                    obtain ⟨g0, g1, g2, g3, g4⟩ := five_cells HQ.out 1 (a : Int) 0 0 0
                    have hbw := HBW.out.trans ((HB5.out.trans (B7.out.mono HB5.out.size)).mono HBW.out.size)
                    exact bodyPost_ret (v := readV 1 (a : Int) 0 0 0 0) (by simp [readV, results, Tryd.results21, go_sem, g0, g1, g2, g3, g4]) rfl ⟨rfl, five_below hbw (Nat.le_refl _) _ _ _ _ _⟩
              · have hclZ : ¬ (999999999999999999 : Int) < (b : Int) := by omega
                have HCl := Lib.hid hcl; clear hcl
                have hbd : (b : Int) ≤ 999999999999999999 := by have := HCl.out; omega
                have HX : Hid (cand 1 a b c d = (⟨1, a, (b : Int), 0, 0⟩ : A)) := Lib.hid (by simp [cand, clamp, HCl.out])
                have KR : Hid (∀ w', Calls Tryd.prog 11 #[.agg #[.int .i64 1, .int .u64 (a : Int), .int .i64 (b : Int), .int .u64 0, .int .u64 0]] w' (Gives (.bool (Ac.right (⟨1, a, (b : Int), 0, 0⟩ : A))) w')) := Lib.hid fun w' => rright_any (⟨1, a, (b : Int), 0, 0⟩ : A) w'
                have KT : Hid (∀ w', Calls Tryd.prog 23 #[.agg #[.int .i64 1, .int .u64 (a : Int), .int .i64 (b : Int), .int .u64 0, .int .u64 0]] w' (Gives (.string ⟨(tx (⟨1, a, (b : Int), 0, 0⟩ : A)).toArray⟩) w')) := Lib.hid fun w' => rtext_any (⟨1, a, (b : Int), 0, 0⟩ : A) (by have h := (HFit.out 1).1; rw [HX.out] at h; exact h) w'
                have HO : Hid (Ac.right (⟨1, a, (b : Int), 0, 0⟩ : A) = false → okB l (cand 1 a b c d) = false) := Lib.hid (fun h => by rw [HX.out]; unfold okB; rw [h]; rfl)
                have HO2 : Hid (Ac.right (⟨1, a, (b : Int), 0, 0⟩ : A) = true → okB l (cand 1 a b c d) = ((⟨(tx (⟨1, a, (b : Int), 0, 0⟩ : A)).toArray⟩ : ByteArray).toList == s.toList)) := Lib.hid (fun h => by rw [HX.out, okB_iff h, ← HS.out])
                generalize Ac.right (⟨1, a, (b : Int), 0, 0⟩ : A) = rb at KR HO HO2
                generalize (⟨(tx (⟨1, a, (b : Int), 0, 0⟩ : A)).toArray⟩ : ByteArray) = tb at KT HO2
                cases rb with
                | false =>
                  have HE := HO.out rfl
                  go_wp2_with fail
                  with_reducible refine (KR.out _).mono ?_
                  rintro e w6 ⟨rfl, hb6⟩
                  obtain ⟨e0, e1, e2, e3, e4⟩ := box5 hb6
                  have B6 := Lib.hid (HB.out.alloc HB.out.size (.cells #[.int .i64 1, .int .u64 (a : Int), .int .i64 (b : Int), .int .u64 0, .int .u64 0] 26))
                  have B6 := Lib.hid (B6.out.trans (hb6.mono B6.out.size))
                  clear hb6
                  go_wp2
                  go_roundw
                  case rel => exact ⟨2, by omega, by rfl, no_next HNo.out HE, B6.out⟩
                  case measure => simp [intOf]
                | true =>
                  have HE := HO2.out rfl
                  cases hq : (tb.toList == s.toList) with
                  | false =>
                    rw [hq] at HE
                    go_wp2_with fail
                    with_reducible refine (KR.out _).mono ?_
                    rintro e w6 ⟨rfl, hb6⟩
                    obtain ⟨e0, e1, e2, e3, e4⟩ := box5 hb6
                    have B6 := Lib.hid (HB.out.alloc HB.out.size (.cells #[.int .i64 1, .int .u64 (a : Int), .int .i64 (b : Int), .int .u64 0, .int .u64 0] 26))
                    have B6 := Lib.hid (B6.out.trans (hb6.mono B6.out.size))
                    go_wp2_with fail
                    with_reducible refine (KT.out _).mono ?_
                    rintro e w7 ⟨rfl, hb7⟩
                    clear e0 e1 e2 e3 e4
                    have hb67 := hb6.trans (hb7.mono hb6.size)
                    obtain ⟨e0, e1, e2, e3, e4⟩ := box5 hb67
                    have B7 := Lib.hid (B6.out.trans (hb7.mono B6.out.size))
                    clear hb6 hb7 hb67
                    go_wp2
                    go_roundw
                    case rel => exact ⟨2, by omega, by rfl, no_next HNo.out HE, B7.out⟩
                    case measure => simp [intOf]
                  | true =>
                    rw [hq] at HE
                    have er : rd l = some (⟨1, a, (b : Int), 0, 0⟩ : A) := by rw [← HX.out]; exact rd_ok HE (HFit.out 1).1 (HFit.out 1).2
                    rw [er]
                    clear er
                    go_wp2_with fail
                    with_reducible refine (KR.out _).mono ?_
                    rintro e w6 ⟨rfl, hb6⟩
                    obtain ⟨e0, e1, e2, e3, e4⟩ := box5 hb6
                    have B6 := Lib.hid (HB.out.alloc HB.out.size (.cells #[.int .i64 1, .int .u64 (a : Int), .int .i64 (b : Int), .int .u64 0, .int .u64 0] 26))
                    have B6 := Lib.hid (B6.out.trans (hb6.mono B6.out.size))
                    go_wp2_with fail
                    with_reducible refine (KT.out _).mono ?_
                    rintro e w7 ⟨rfl, hb7⟩
                    clear e0 e1 e2 e3 e4
                    have hb67 := hb6.trans (hb7.mono hb6.size)
                    obtain ⟨e0, e1, e2, e3, e4⟩ := box5 hb67
                    have B7 := Lib.hid (B6.out.trans (hb7.mono B6.out.size))
                    clear hb6 hb7 hb67
                    have HQ := Lib.hid ((HQ0.out.keep HB5.out).keep B7.out)
                    obtain ⟨q0, q1, q2, q3, q4, qz⟩ := HQ.out.cells
                    go_wp2
                    clear q0 q1 q2 q3 q4 qz e0 e1 e2 e3 e4
                    show bodyPost _ _ _ _ _ (five _ w.heap.size 1 (a : Int) (b : Int) 0 0)
                    obtain ⟨g0, g1, g2, g3, g4⟩ := five_cells HQ.out 1 (a : Int) (b : Int) 0 0
                    have hbw := HBW.out.trans ((HB5.out.trans (B7.out.mono HB5.out.size)).mono HBW.out.size)
                    exact bodyPost_ret (v := readV 1 (a : Int) (b : Int) 0 0 0) (by simp [readV, results, Tryd.results21, go_sem, g0, g1, g2, g3, g4]) rfl ⟨rfl, five_below hbw (Nat.le_refl _) _ _ _ _ _⟩
            · subst h
              rw [show ((2 : Nat) : Int) = 2 from rfl]
              by_cases hcl : 999999999999999999 < b
              · have hclZ : (999999999999999999 : Int) < (b : Int) := by omega
                have HCl := Lib.hid hcl; clear hcl
                have HX : Hid (cand 2 a b c d = (⟨2, a, 0, 0, c⟩ : A)) := Lib.hid (by simp [cand, clamp, HCl.out])
                have KR : Hid (∀ w', Calls Tryd.prog 11 #[.agg #[.int .i64 2, .int .u64 (a : Int), .int .i64 0, .int .u64 0, .int .u64 (c : Int)]] w' (Gives (.bool (Ac.right (⟨2, a, 0, 0, c⟩ : A))) w')) := Lib.hid fun w' => rright_any (⟨2, a, 0, 0, c⟩ : A) w'
                have KT : Hid (∀ w', Calls Tryd.prog 23 #[.agg #[.int .i64 2, .int .u64 (a : Int), .int .i64 0, .int .u64 0, .int .u64 (c : Int)]] w' (Gives (.string ⟨(tx (⟨2, a, 0, 0, c⟩ : A)).toArray⟩) w')) := Lib.hid fun w' => rtext_any (⟨2, a, 0, 0, c⟩ : A) (by have h := (HFit.out 2).1; rw [HX.out] at h; exact h) w'
                have HO : Hid (Ac.right (⟨2, a, 0, 0, c⟩ : A) = false → okB l (cand 2 a b c d) = false) := Lib.hid (fun h => by rw [HX.out]; unfold okB; rw [h]; rfl)
                have HO2 : Hid (Ac.right (⟨2, a, 0, 0, c⟩ : A) = true → okB l (cand 2 a b c d) = ((⟨(tx (⟨2, a, 0, 0, c⟩ : A)).toArray⟩ : ByteArray).toList == s.toList)) := Lib.hid (fun h => by rw [HX.out, okB_iff h, ← HS.out])
                generalize Ac.right (⟨2, a, 0, 0, c⟩ : A) = rb at KR HO HO2
                generalize (⟨(tx (⟨2, a, 0, 0, c⟩ : A)).toArray⟩ : ByteArray) = tb at KT HO2
                cases rb with
                | false =>
                  have HE := HO.out rfl
                  go_wp2_with fail
                  with_reducible refine (KR.out _).mono ?_
                  rintro e w6 ⟨rfl, hb6⟩
                  obtain ⟨e0, e1, e2, e3, e4⟩ := box5 hb6
                  have B6 := Lib.hid (HB.out.alloc HB.out.size (.cells #[.int .i64 2, .int .u64 (a : Int), .int .i64 0, .int .u64 0, .int .u64 (c : Int)] 26))
                  have B6 := Lib.hid (B6.out.trans (hb6.mono B6.out.size))
                  clear hb6
                  go_wp2
                  go_roundw
                  case rel => exact ⟨3, by omega, by rfl, no_next HNo.out HE, B6.out⟩
                  case measure => simp [intOf]
                | true =>
                  have HE := HO2.out rfl
                  cases hq : (tb.toList == s.toList) with
                  | false =>
                    rw [hq] at HE
                    go_wp2_with fail
                    with_reducible refine (KR.out _).mono ?_
                    rintro e w6 ⟨rfl, hb6⟩
                    obtain ⟨e0, e1, e2, e3, e4⟩ := box5 hb6
                    have B6 := Lib.hid (HB.out.alloc HB.out.size (.cells #[.int .i64 2, .int .u64 (a : Int), .int .i64 0, .int .u64 0, .int .u64 (c : Int)] 26))
                    have B6 := Lib.hid (B6.out.trans (hb6.mono B6.out.size))
                    go_wp2_with fail
                    with_reducible refine (KT.out _).mono ?_
                    rintro e w7 ⟨rfl, hb7⟩
                    clear e0 e1 e2 e3 e4
                    have hb67 := hb6.trans (hb7.mono hb6.size)
                    obtain ⟨e0, e1, e2, e3, e4⟩ := box5 hb67
                    have B7 := Lib.hid (B6.out.trans (hb7.mono B6.out.size))
                    clear hb6 hb7 hb67
                    go_wp2
                    go_roundw
                    case rel => exact ⟨3, by omega, by rfl, no_next HNo.out HE, B7.out⟩
                    case measure => simp [intOf]
                  | true =>
                    rw [hq] at HE
                    have er : rd l = some (⟨2, a, 0, 0, c⟩ : A) := by rw [← HX.out]; exact rd_ok HE (HFit.out 2).1 (HFit.out 2).2
                    rw [er]
                    clear er
                    go_wp2_with fail
                    with_reducible refine (KR.out _).mono ?_
                    rintro e w6 ⟨rfl, hb6⟩
                    obtain ⟨e0, e1, e2, e3, e4⟩ := box5 hb6
                    have B6 := Lib.hid (HB.out.alloc HB.out.size (.cells #[.int .i64 2, .int .u64 (a : Int), .int .i64 0, .int .u64 0, .int .u64 (c : Int)] 26))
                    have B6 := Lib.hid (B6.out.trans (hb6.mono B6.out.size))
                    go_wp2_with fail
                    with_reducible refine (KT.out _).mono ?_
                    rintro e w7 ⟨rfl, hb7⟩
                    clear e0 e1 e2 e3 e4
                    have hb67 := hb6.trans (hb7.mono hb6.size)
                    obtain ⟨e0, e1, e2, e3, e4⟩ := box5 hb67
                    have B7 := Lib.hid (B6.out.trans (hb7.mono B6.out.size))
                    clear hb6 hb7 hb67
                    have HQ := Lib.hid ((HQ0.out.keep HB5.out).keep B7.out)
                    obtain ⟨q0, q1, q2, q3, q4, qz⟩ := HQ.out.cells
                    go_wp2
                    clear q0 q1 q2 q3 q4 qz e0 e1 e2 e3 e4
                    show bodyPost _ _ _ _ _ (five _ w.heap.size 2 (a : Int) 0 0 (c : Int))
                    obtain ⟨g0, g1, g2, g3, g4⟩ := five_cells HQ.out 2 (a : Int) 0 0 (c : Int)
                    have hbw := HBW.out.trans ((HB5.out.trans (B7.out.mono HB5.out.size)).mono HBW.out.size)
                    exact bodyPost_ret (v := readV 2 (a : Int) 0 0 (c : Int) 0) (by simp [readV, results, Tryd.results21, go_sem, g0, g1, g2, g3, g4]) rfl ⟨rfl, five_below hbw (Nat.le_refl _) _ _ _ _ _⟩
              · have hclZ : ¬ (999999999999999999 : Int) < (b : Int) := by omega
                have HCl := Lib.hid hcl; clear hcl
                have hbd : (b : Int) ≤ 999999999999999999 := by have := HCl.out; omega
                have HX : Hid (cand 2 a b c d = (⟨2, a, (b : Int), 0, c⟩ : A)) := Lib.hid (by simp [cand, clamp, HCl.out])
                have KR : Hid (∀ w', Calls Tryd.prog 11 #[.agg #[.int .i64 2, .int .u64 (a : Int), .int .i64 (b : Int), .int .u64 0, .int .u64 (c : Int)]] w' (Gives (.bool (Ac.right (⟨2, a, (b : Int), 0, c⟩ : A))) w')) := Lib.hid fun w' => rright_any (⟨2, a, (b : Int), 0, c⟩ : A) w'
                have KT : Hid (∀ w', Calls Tryd.prog 23 #[.agg #[.int .i64 2, .int .u64 (a : Int), .int .i64 (b : Int), .int .u64 0, .int .u64 (c : Int)]] w' (Gives (.string ⟨(tx (⟨2, a, (b : Int), 0, c⟩ : A)).toArray⟩) w')) := Lib.hid fun w' => rtext_any (⟨2, a, (b : Int), 0, c⟩ : A) (by have h := (HFit.out 2).1; rw [HX.out] at h; exact h) w'
                have HO : Hid (Ac.right (⟨2, a, (b : Int), 0, c⟩ : A) = false → okB l (cand 2 a b c d) = false) := Lib.hid (fun h => by rw [HX.out]; unfold okB; rw [h]; rfl)
                have HO2 : Hid (Ac.right (⟨2, a, (b : Int), 0, c⟩ : A) = true → okB l (cand 2 a b c d) = ((⟨(tx (⟨2, a, (b : Int), 0, c⟩ : A)).toArray⟩ : ByteArray).toList == s.toList)) := Lib.hid (fun h => by rw [HX.out, okB_iff h, ← HS.out])
                generalize Ac.right (⟨2, a, (b : Int), 0, c⟩ : A) = rb at KR HO HO2
                generalize (⟨(tx (⟨2, a, (b : Int), 0, c⟩ : A)).toArray⟩ : ByteArray) = tb at KT HO2
                cases rb with
                | false =>
                  have HE := HO.out rfl
                  go_wp2_with fail
                  with_reducible refine (KR.out _).mono ?_
                  rintro e w6 ⟨rfl, hb6⟩
                  obtain ⟨e0, e1, e2, e3, e4⟩ := box5 hb6
                  have B6 := Lib.hid (HB.out.alloc HB.out.size (.cells #[.int .i64 2, .int .u64 (a : Int), .int .i64 (b : Int), .int .u64 0, .int .u64 (c : Int)] 26))
                  have B6 := Lib.hid (B6.out.trans (hb6.mono B6.out.size))
                  clear hb6
                  go_wp2
                  go_roundw
                  case rel => exact ⟨3, by omega, by rfl, no_next HNo.out HE, B6.out⟩
                  case measure => simp [intOf]
                | true =>
                  have HE := HO2.out rfl
                  cases hq : (tb.toList == s.toList) with
                  | false =>
                    rw [hq] at HE
                    go_wp2_with fail
                    with_reducible refine (KR.out _).mono ?_
                    rintro e w6 ⟨rfl, hb6⟩
                    obtain ⟨e0, e1, e2, e3, e4⟩ := box5 hb6
                    have B6 := Lib.hid (HB.out.alloc HB.out.size (.cells #[.int .i64 2, .int .u64 (a : Int), .int .i64 (b : Int), .int .u64 0, .int .u64 (c : Int)] 26))
                    have B6 := Lib.hid (B6.out.trans (hb6.mono B6.out.size))
                    go_wp2_with fail
                    with_reducible refine (KT.out _).mono ?_
                    rintro e w7 ⟨rfl, hb7⟩
                    clear e0 e1 e2 e3 e4
                    have hb67 := hb6.trans (hb7.mono hb6.size)
                    obtain ⟨e0, e1, e2, e3, e4⟩ := box5 hb67
                    have B7 := Lib.hid (B6.out.trans (hb7.mono B6.out.size))
                    clear hb6 hb7 hb67
                    go_wp2
                    go_roundw
                    case rel => exact ⟨3, by omega, by rfl, no_next HNo.out HE, B7.out⟩
                    case measure => simp [intOf]
                  | true =>
                    rw [hq] at HE
                    have er : rd l = some (⟨2, a, (b : Int), 0, c⟩ : A) := by rw [← HX.out]; exact rd_ok HE (HFit.out 2).1 (HFit.out 2).2
                    rw [er]
                    clear er
                    go_wp2_with fail
                    with_reducible refine (KR.out _).mono ?_
                    rintro e w6 ⟨rfl, hb6⟩
                    obtain ⟨e0, e1, e2, e3, e4⟩ := box5 hb6
                    have B6 := Lib.hid (HB.out.alloc HB.out.size (.cells #[.int .i64 2, .int .u64 (a : Int), .int .i64 (b : Int), .int .u64 0, .int .u64 (c : Int)] 26))
                    have B6 := Lib.hid (B6.out.trans (hb6.mono B6.out.size))
                    go_wp2_with fail
                    with_reducible refine (KT.out _).mono ?_
                    rintro e w7 ⟨rfl, hb7⟩
                    clear e0 e1 e2 e3 e4
                    have hb67 := hb6.trans (hb7.mono hb6.size)
                    obtain ⟨e0, e1, e2, e3, e4⟩ := box5 hb67
                    have B7 := Lib.hid (B6.out.trans (hb7.mono B6.out.size))
                    clear hb6 hb7 hb67
                    have HQ := Lib.hid ((HQ0.out.keep HB5.out).keep B7.out)
                    obtain ⟨q0, q1, q2, q3, q4, qz⟩ := HQ.out.cells
                    go_wp2
                    clear q0 q1 q2 q3 q4 qz e0 e1 e2 e3 e4
                    show bodyPost _ _ _ _ _ (five _ w.heap.size 2 (a : Int) (b : Int) 0 (c : Int))
                    obtain ⟨g0, g1, g2, g3, g4⟩ := five_cells HQ.out 2 (a : Int) (b : Int) 0 (c : Int)
                    have hbw := HBW.out.trans ((HB5.out.trans (B7.out.mono HB5.out.size)).mono HBW.out.size)
                    exact bodyPost_ret (v := readV 2 (a : Int) (b : Int) 0 (c : Int) 0) (by simp [readV, results, Tryd.results21, go_sem, g0, g1, g2, g3, g4]) rfl ⟨rfl, five_below hbw (Nat.le_refl _) _ _ _ _ _⟩
            · subst h
              rw [show ((3 : Nat) : Int) = 3 from rfl]
              by_cases hcl : 999999999999999999 < b
              · have hclZ : (999999999999999999 : Int) < (b : Int) := by omega
                have HCl := Lib.hid hcl; clear hcl
                have HX : Hid (cand 3 a b c d = (⟨3, a, 0, c, d⟩ : A)) := Lib.hid (by simp [cand, clamp, HCl.out])
                have KR : Hid (∀ w', Calls Tryd.prog 11 #[.agg #[.int .i64 3, .int .u64 (a : Int), .int .i64 0, .int .u64 (c : Int), .int .u64 (d : Int)]] w' (Gives (.bool (Ac.right (⟨3, a, 0, c, d⟩ : A))) w')) := Lib.hid fun w' => rright_any (⟨3, a, 0, c, d⟩ : A) w'
                have KT : Hid (∀ w', Calls Tryd.prog 23 #[.agg #[.int .i64 3, .int .u64 (a : Int), .int .i64 0, .int .u64 (c : Int), .int .u64 (d : Int)]] w' (Gives (.string ⟨(tx (⟨3, a, 0, c, d⟩ : A)).toArray⟩) w')) := Lib.hid fun w' => rtext_any (⟨3, a, 0, c, d⟩ : A) (by have h := (HFit.out 3).1; rw [HX.out] at h; exact h) w'
                have HO : Hid (Ac.right (⟨3, a, 0, c, d⟩ : A) = false → okB l (cand 3 a b c d) = false) := Lib.hid (fun h => by rw [HX.out]; unfold okB; rw [h]; rfl)
                have HO2 : Hid (Ac.right (⟨3, a, 0, c, d⟩ : A) = true → okB l (cand 3 a b c d) = ((⟨(tx (⟨3, a, 0, c, d⟩ : A)).toArray⟩ : ByteArray).toList == s.toList)) := Lib.hid (fun h => by rw [HX.out, okB_iff h, ← HS.out])
                generalize Ac.right (⟨3, a, 0, c, d⟩ : A) = rb at KR HO HO2
                generalize (⟨(tx (⟨3, a, 0, c, d⟩ : A)).toArray⟩ : ByteArray) = tb at KT HO2
                cases rb with
                | false =>
                  have HE := HO.out rfl
                  go_wp2_with fail
                  with_reducible refine (KR.out _).mono ?_
                  rintro e w6 ⟨rfl, hb6⟩
                  obtain ⟨e0, e1, e2, e3, e4⟩ := box5 hb6
                  have B6 := Lib.hid (HB.out.alloc HB.out.size (.cells #[.int .i64 3, .int .u64 (a : Int), .int .i64 0, .int .u64 (c : Int), .int .u64 (d : Int)] 26))
                  have B6 := Lib.hid (B6.out.trans (hb6.mono B6.out.size))
                  clear hb6
                  go_wp2
                  go_roundw
                  case rel => exact ⟨4, by omega, by rfl, no_next HNo.out HE, B6.out⟩
                  case measure => simp [intOf]
                | true =>
                  have HE := HO2.out rfl
                  cases hq : (tb.toList == s.toList) with
                  | false =>
                    rw [hq] at HE
                    go_wp2_with fail
                    with_reducible refine (KR.out _).mono ?_
                    rintro e w6 ⟨rfl, hb6⟩
                    obtain ⟨e0, e1, e2, e3, e4⟩ := box5 hb6
                    have B6 := Lib.hid (HB.out.alloc HB.out.size (.cells #[.int .i64 3, .int .u64 (a : Int), .int .i64 0, .int .u64 (c : Int), .int .u64 (d : Int)] 26))
                    have B6 := Lib.hid (B6.out.trans (hb6.mono B6.out.size))
                    go_wp2_with fail
                    with_reducible refine (KT.out _).mono ?_
                    rintro e w7 ⟨rfl, hb7⟩
                    clear e0 e1 e2 e3 e4
                    have hb67 := hb6.trans (hb7.mono hb6.size)
                    obtain ⟨e0, e1, e2, e3, e4⟩ := box5 hb67
                    have B7 := Lib.hid (B6.out.trans (hb7.mono B6.out.size))
                    clear hb6 hb7 hb67
                    go_wp2
                    go_roundw
                    case rel => exact ⟨4, by omega, by rfl, no_next HNo.out HE, B7.out⟩
                    case measure => simp [intOf]
                  | true =>
                    rw [hq] at HE
                    have er : rd l = some (⟨3, a, 0, c, d⟩ : A) := by rw [← HX.out]; exact rd_ok HE (HFit.out 3).1 (HFit.out 3).2
                    rw [er]
                    clear er
                    go_wp2_with fail
                    with_reducible refine (KR.out _).mono ?_
                    rintro e w6 ⟨rfl, hb6⟩
                    obtain ⟨e0, e1, e2, e3, e4⟩ := box5 hb6
                    have B6 := Lib.hid (HB.out.alloc HB.out.size (.cells #[.int .i64 3, .int .u64 (a : Int), .int .i64 0, .int .u64 (c : Int), .int .u64 (d : Int)] 26))
                    have B6 := Lib.hid (B6.out.trans (hb6.mono B6.out.size))
                    go_wp2_with fail
                    with_reducible refine (KT.out _).mono ?_
                    rintro e w7 ⟨rfl, hb7⟩
                    clear e0 e1 e2 e3 e4
                    have hb67 := hb6.trans (hb7.mono hb6.size)
                    obtain ⟨e0, e1, e2, e3, e4⟩ := box5 hb67
                    have B7 := Lib.hid (B6.out.trans (hb7.mono B6.out.size))
                    clear hb6 hb7 hb67
                    have HQ := Lib.hid ((HQ0.out.keep HB5.out).keep B7.out)
                    obtain ⟨q0, q1, q2, q3, q4, qz⟩ := HQ.out.cells
                    go_wp2
                    clear q0 q1 q2 q3 q4 qz e0 e1 e2 e3 e4
                    show bodyPost _ _ _ _ _ (five _ w.heap.size 3 (a : Int) 0 (c : Int) (d : Int))
                    obtain ⟨g0, g1, g2, g3, g4⟩ := five_cells HQ.out 3 (a : Int) 0 (c : Int) (d : Int)
                    have hbw := HBW.out.trans ((HB5.out.trans (B7.out.mono HB5.out.size)).mono HBW.out.size)
                    exact bodyPost_ret (v := readV 3 (a : Int) 0 (c : Int) (d : Int) 0) (by simp [readV, results, Tryd.results21, go_sem, g0, g1, g2, g3, g4]) rfl ⟨rfl, five_below hbw (Nat.le_refl _) _ _ _ _ _⟩
              · have hclZ : ¬ (999999999999999999 : Int) < (b : Int) := by omega
                have HCl := Lib.hid hcl; clear hcl
                have hbd : (b : Int) ≤ 999999999999999999 := by have := HCl.out; omega
                have HX : Hid (cand 3 a b c d = (⟨3, a, (b : Int), c, d⟩ : A)) := Lib.hid (by simp [cand, clamp, HCl.out])
                have KR : Hid (∀ w', Calls Tryd.prog 11 #[.agg #[.int .i64 3, .int .u64 (a : Int), .int .i64 (b : Int), .int .u64 (c : Int), .int .u64 (d : Int)]] w' (Gives (.bool (Ac.right (⟨3, a, (b : Int), c, d⟩ : A))) w')) := Lib.hid fun w' => rright_any (⟨3, a, (b : Int), c, d⟩ : A) w'
                have KT : Hid (∀ w', Calls Tryd.prog 23 #[.agg #[.int .i64 3, .int .u64 (a : Int), .int .i64 (b : Int), .int .u64 (c : Int), .int .u64 (d : Int)]] w' (Gives (.string ⟨(tx (⟨3, a, (b : Int), c, d⟩ : A)).toArray⟩) w')) := Lib.hid fun w' => rtext_any (⟨3, a, (b : Int), c, d⟩ : A) (by have h := (HFit.out 3).1; rw [HX.out] at h; exact h) w'
                have HO : Hid (Ac.right (⟨3, a, (b : Int), c, d⟩ : A) = false → okB l (cand 3 a b c d) = false) := Lib.hid (fun h => by rw [HX.out]; unfold okB; rw [h]; rfl)
                have HO2 : Hid (Ac.right (⟨3, a, (b : Int), c, d⟩ : A) = true → okB l (cand 3 a b c d) = ((⟨(tx (⟨3, a, (b : Int), c, d⟩ : A)).toArray⟩ : ByteArray).toList == s.toList)) := Lib.hid (fun h => by rw [HX.out, okB_iff h, ← HS.out])
                generalize Ac.right (⟨3, a, (b : Int), c, d⟩ : A) = rb at KR HO HO2
                generalize (⟨(tx (⟨3, a, (b : Int), c, d⟩ : A)).toArray⟩ : ByteArray) = tb at KT HO2
                cases rb with
                | false =>
                  have HE := HO.out rfl
                  go_wp2_with fail
                  with_reducible refine (KR.out _).mono ?_
                  rintro e w6 ⟨rfl, hb6⟩
                  obtain ⟨e0, e1, e2, e3, e4⟩ := box5 hb6
                  have B6 := Lib.hid (HB.out.alloc HB.out.size (.cells #[.int .i64 3, .int .u64 (a : Int), .int .i64 (b : Int), .int .u64 (c : Int), .int .u64 (d : Int)] 26))
                  have B6 := Lib.hid (B6.out.trans (hb6.mono B6.out.size))
                  clear hb6
                  go_wp2
                  go_roundw
                  case rel => exact ⟨4, by omega, by rfl, no_next HNo.out HE, B6.out⟩
                  case measure => simp [intOf]
                | true =>
                  have HE := HO2.out rfl
                  cases hq : (tb.toList == s.toList) with
                  | false =>
                    rw [hq] at HE
                    go_wp2_with fail
                    with_reducible refine (KR.out _).mono ?_
                    rintro e w6 ⟨rfl, hb6⟩
                    obtain ⟨e0, e1, e2, e3, e4⟩ := box5 hb6
                    have B6 := Lib.hid (HB.out.alloc HB.out.size (.cells #[.int .i64 3, .int .u64 (a : Int), .int .i64 (b : Int), .int .u64 (c : Int), .int .u64 (d : Int)] 26))
                    have B6 := Lib.hid (B6.out.trans (hb6.mono B6.out.size))
                    go_wp2_with fail
                    with_reducible refine (KT.out _).mono ?_
                    rintro e w7 ⟨rfl, hb7⟩
                    clear e0 e1 e2 e3 e4
                    have hb67 := hb6.trans (hb7.mono hb6.size)
                    obtain ⟨e0, e1, e2, e3, e4⟩ := box5 hb67
                    have B7 := Lib.hid (B6.out.trans (hb7.mono B6.out.size))
                    clear hb6 hb7 hb67
                    go_wp2
                    go_roundw
                    case rel => exact ⟨4, by omega, by rfl, no_next HNo.out HE, B7.out⟩
                    case measure => simp [intOf]
                  | true =>
                    rw [hq] at HE
                    have er : rd l = some (⟨3, a, (b : Int), c, d⟩ : A) := by rw [← HX.out]; exact rd_ok HE (HFit.out 3).1 (HFit.out 3).2
                    rw [er]
                    clear er
                    go_wp2_with fail
                    with_reducible refine (KR.out _).mono ?_
                    rintro e w6 ⟨rfl, hb6⟩
                    obtain ⟨e0, e1, e2, e3, e4⟩ := box5 hb6
                    have B6 := Lib.hid (HB.out.alloc HB.out.size (.cells #[.int .i64 3, .int .u64 (a : Int), .int .i64 (b : Int), .int .u64 (c : Int), .int .u64 (d : Int)] 26))
                    have B6 := Lib.hid (B6.out.trans (hb6.mono B6.out.size))
                    go_wp2_with fail
                    with_reducible refine (KT.out _).mono ?_
                    rintro e w7 ⟨rfl, hb7⟩
                    clear e0 e1 e2 e3 e4
                    have hb67 := hb6.trans (hb7.mono hb6.size)
                    obtain ⟨e0, e1, e2, e3, e4⟩ := box5 hb67
                    have B7 := Lib.hid (B6.out.trans (hb7.mono B6.out.size))
                    clear hb6 hb7 hb67
                    have HQ := Lib.hid ((HQ0.out.keep HB5.out).keep B7.out)
                    obtain ⟨q0, q1, q2, q3, q4, qz⟩ := HQ.out.cells
                    go_wp2
                    clear q0 q1 q2 q3 q4 qz e0 e1 e2 e3 e4
                    show bodyPost _ _ _ _ _ (five _ w.heap.size 3 (a : Int) (b : Int) (c : Int) (d : Int))
                    obtain ⟨g0, g1, g2, g3, g4⟩ := five_cells HQ.out 3 (a : Int) (b : Int) (c : Int) (d : Int)
                    have hbw := HBW.out.trans ((HB5.out.trans (B7.out.mono HB5.out.size)).mono HBW.out.size)
                    exact bodyPost_ret (v := readV 3 (a : Int) (b : Int) (c : Int) (d : Int) 0) (by simp [readV, results, Tryd.results21, go_sem, g0, g1, g2, g3, g4]) rfl ⟨rfl, five_below hbw (Nat.le_refl _) _ _ _ _ _⟩
            · subst h
              rw [show ((4 : Nat) : Int) = 4 from rfl]
              by_cases hcl : 999999999999999999 < b
              · have hclZ : (999999999999999999 : Int) < (b : Int) := by omega
                have HCl := Lib.hid hcl; clear hcl
                have HX : Hid (cand 4 a b c d = (⟨4, a, 0, 0, c⟩ : A)) := Lib.hid (by simp [cand, clamp, HCl.out])
                have KR : Hid (∀ w', Calls Tryd.prog 11 #[.agg #[.int .i64 4, .int .u64 (a : Int), .int .i64 0, .int .u64 0, .int .u64 (c : Int)]] w' (Gives (.bool (Ac.right (⟨4, a, 0, 0, c⟩ : A))) w')) := Lib.hid fun w' => rright_any (⟨4, a, 0, 0, c⟩ : A) w'
                have KT : Hid (∀ w', Calls Tryd.prog 23 #[.agg #[.int .i64 4, .int .u64 (a : Int), .int .i64 0, .int .u64 0, .int .u64 (c : Int)]] w' (Gives (.string ⟨(tx (⟨4, a, 0, 0, c⟩ : A)).toArray⟩) w')) := Lib.hid fun w' => rtext_any (⟨4, a, 0, 0, c⟩ : A) (by have h := (HFit.out 4).1; rw [HX.out] at h; exact h) w'
                have HO : Hid (Ac.right (⟨4, a, 0, 0, c⟩ : A) = false → okB l (cand 4 a b c d) = false) := Lib.hid (fun h => by rw [HX.out]; unfold okB; rw [h]; rfl)
                have HO2 : Hid (Ac.right (⟨4, a, 0, 0, c⟩ : A) = true → okB l (cand 4 a b c d) = ((⟨(tx (⟨4, a, 0, 0, c⟩ : A)).toArray⟩ : ByteArray).toList == s.toList)) := Lib.hid (fun h => by rw [HX.out, okB_iff h, ← HS.out])
                generalize Ac.right (⟨4, a, 0, 0, c⟩ : A) = rb at KR HO HO2
                generalize (⟨(tx (⟨4, a, 0, 0, c⟩ : A)).toArray⟩ : ByteArray) = tb at KT HO2
                cases rb with
                | false =>
                  have HE := HO.out rfl
                  go_wp2_with fail
                  with_reducible refine (KR.out _).mono ?_
                  rintro e w6 ⟨rfl, hb6⟩
                  obtain ⟨e0, e1, e2, e3, e4⟩ := box5 hb6
                  have B6 := Lib.hid (HB.out.alloc HB.out.size (.cells #[.int .i64 4, .int .u64 (a : Int), .int .i64 0, .int .u64 0, .int .u64 (c : Int)] 26))
                  have B6 := Lib.hid (B6.out.trans (hb6.mono B6.out.size))
                  clear hb6
                  go_wp2
                  go_roundw
                  case rel => exact ⟨5, by omega, by rfl, no_next HNo.out HE, B6.out⟩
                  case measure => simp [intOf]
                | true =>
                  have HE := HO2.out rfl
                  cases hq : (tb.toList == s.toList) with
                  | false =>
                    rw [hq] at HE
                    go_wp2_with fail
                    with_reducible refine (KR.out _).mono ?_
                    rintro e w6 ⟨rfl, hb6⟩
                    obtain ⟨e0, e1, e2, e3, e4⟩ := box5 hb6
                    have B6 := Lib.hid (HB.out.alloc HB.out.size (.cells #[.int .i64 4, .int .u64 (a : Int), .int .i64 0, .int .u64 0, .int .u64 (c : Int)] 26))
                    have B6 := Lib.hid (B6.out.trans (hb6.mono B6.out.size))
                    go_wp2_with fail
                    with_reducible refine (KT.out _).mono ?_
                    rintro e w7 ⟨rfl, hb7⟩
                    clear e0 e1 e2 e3 e4
                    have hb67 := hb6.trans (hb7.mono hb6.size)
                    obtain ⟨e0, e1, e2, e3, e4⟩ := box5 hb67
                    have B7 := Lib.hid (B6.out.trans (hb7.mono B6.out.size))
                    clear hb6 hb7 hb67
                    go_wp2
                    go_roundw
                    case rel => exact ⟨5, by omega, by rfl, no_next HNo.out HE, B7.out⟩
                    case measure => simp [intOf]
                  | true =>
                    rw [hq] at HE
                    have er : rd l = some (⟨4, a, 0, 0, c⟩ : A) := by rw [← HX.out]; exact rd_ok HE (HFit.out 4).1 (HFit.out 4).2
                    rw [er]
                    clear er
                    go_wp2_with fail
                    with_reducible refine (KR.out _).mono ?_
                    rintro e w6 ⟨rfl, hb6⟩
                    obtain ⟨e0, e1, e2, e3, e4⟩ := box5 hb6
                    have B6 := Lib.hid (HB.out.alloc HB.out.size (.cells #[.int .i64 4, .int .u64 (a : Int), .int .i64 0, .int .u64 0, .int .u64 (c : Int)] 26))
                    have B6 := Lib.hid (B6.out.trans (hb6.mono B6.out.size))
                    go_wp2_with fail
                    with_reducible refine (KT.out _).mono ?_
                    rintro e w7 ⟨rfl, hb7⟩
                    clear e0 e1 e2 e3 e4
                    have hb67 := hb6.trans (hb7.mono hb6.size)
                    obtain ⟨e0, e1, e2, e3, e4⟩ := box5 hb67
                    have B7 := Lib.hid (B6.out.trans (hb7.mono B6.out.size))
                    clear hb6 hb7 hb67
                    have HQ := Lib.hid ((HQ0.out.keep HB5.out).keep B7.out)
                    obtain ⟨q0, q1, q2, q3, q4, qz⟩ := HQ.out.cells
                    go_wp2
                    clear q0 q1 q2 q3 q4 qz e0 e1 e2 e3 e4
                    show bodyPost _ _ _ _ _ (five _ w.heap.size 4 (a : Int) 0 0 (c : Int))
                    obtain ⟨g0, g1, g2, g3, g4⟩ := five_cells HQ.out 4 (a : Int) 0 0 (c : Int)
                    have hbw := HBW.out.trans ((HB5.out.trans (B7.out.mono HB5.out.size)).mono HBW.out.size)
                    exact bodyPost_ret (v := readV 4 (a : Int) 0 0 (c : Int) 0) (by simp [readV, results, Tryd.results21, go_sem, g0, g1, g2, g3, g4]) rfl ⟨rfl, five_below hbw (Nat.le_refl _) _ _ _ _ _⟩
              · have hclZ : ¬ (999999999999999999 : Int) < (b : Int) := by omega
                have HCl := Lib.hid hcl; clear hcl
                have hbd : (b : Int) ≤ 999999999999999999 := by have := HCl.out; omega
                have HX : Hid (cand 4 a b c d = (⟨4, a, (b : Int), 0, c⟩ : A)) := Lib.hid (by simp [cand, clamp, HCl.out])
                have KR : Hid (∀ w', Calls Tryd.prog 11 #[.agg #[.int .i64 4, .int .u64 (a : Int), .int .i64 (b : Int), .int .u64 0, .int .u64 (c : Int)]] w' (Gives (.bool (Ac.right (⟨4, a, (b : Int), 0, c⟩ : A))) w')) := Lib.hid fun w' => rright_any (⟨4, a, (b : Int), 0, c⟩ : A) w'
                have KT : Hid (∀ w', Calls Tryd.prog 23 #[.agg #[.int .i64 4, .int .u64 (a : Int), .int .i64 (b : Int), .int .u64 0, .int .u64 (c : Int)]] w' (Gives (.string ⟨(tx (⟨4, a, (b : Int), 0, c⟩ : A)).toArray⟩) w')) := Lib.hid fun w' => rtext_any (⟨4, a, (b : Int), 0, c⟩ : A) (by have h := (HFit.out 4).1; rw [HX.out] at h; exact h) w'
                have HO : Hid (Ac.right (⟨4, a, (b : Int), 0, c⟩ : A) = false → okB l (cand 4 a b c d) = false) := Lib.hid (fun h => by rw [HX.out]; unfold okB; rw [h]; rfl)
                have HO2 : Hid (Ac.right (⟨4, a, (b : Int), 0, c⟩ : A) = true → okB l (cand 4 a b c d) = ((⟨(tx (⟨4, a, (b : Int), 0, c⟩ : A)).toArray⟩ : ByteArray).toList == s.toList)) := Lib.hid (fun h => by rw [HX.out, okB_iff h, ← HS.out])
                generalize Ac.right (⟨4, a, (b : Int), 0, c⟩ : A) = rb at KR HO HO2
                generalize (⟨(tx (⟨4, a, (b : Int), 0, c⟩ : A)).toArray⟩ : ByteArray) = tb at KT HO2
                cases rb with
                | false =>
                  have HE := HO.out rfl
                  go_wp2_with fail
                  with_reducible refine (KR.out _).mono ?_
                  rintro e w6 ⟨rfl, hb6⟩
                  obtain ⟨e0, e1, e2, e3, e4⟩ := box5 hb6
                  have B6 := Lib.hid (HB.out.alloc HB.out.size (.cells #[.int .i64 4, .int .u64 (a : Int), .int .i64 (b : Int), .int .u64 0, .int .u64 (c : Int)] 26))
                  have B6 := Lib.hid (B6.out.trans (hb6.mono B6.out.size))
                  clear hb6
                  go_wp2
                  go_roundw
                  case rel => exact ⟨5, by omega, by rfl, no_next HNo.out HE, B6.out⟩
                  case measure => simp [intOf]
                | true =>
                  have HE := HO2.out rfl
                  cases hq : (tb.toList == s.toList) with
                  | false =>
                    rw [hq] at HE
                    go_wp2_with fail
                    with_reducible refine (KR.out _).mono ?_
                    rintro e w6 ⟨rfl, hb6⟩
                    obtain ⟨e0, e1, e2, e3, e4⟩ := box5 hb6
                    have B6 := Lib.hid (HB.out.alloc HB.out.size (.cells #[.int .i64 4, .int .u64 (a : Int), .int .i64 (b : Int), .int .u64 0, .int .u64 (c : Int)] 26))
                    have B6 := Lib.hid (B6.out.trans (hb6.mono B6.out.size))
                    go_wp2_with fail
                    with_reducible refine (KT.out _).mono ?_
                    rintro e w7 ⟨rfl, hb7⟩
                    clear e0 e1 e2 e3 e4
                    have hb67 := hb6.trans (hb7.mono hb6.size)
                    obtain ⟨e0, e1, e2, e3, e4⟩ := box5 hb67
                    have B7 := Lib.hid (B6.out.trans (hb7.mono B6.out.size))
                    clear hb6 hb7 hb67
                    go_wp2
                    go_roundw
                    case rel => exact ⟨5, by omega, by rfl, no_next HNo.out HE, B7.out⟩
                    case measure => simp [intOf]
                  | true =>
                    rw [hq] at HE
                    have er : rd l = some (⟨4, a, (b : Int), 0, c⟩ : A) := by rw [← HX.out]; exact rd_ok HE (HFit.out 4).1 (HFit.out 4).2
                    rw [er]
                    clear er
                    go_wp2_with fail
                    with_reducible refine (KR.out _).mono ?_
                    rintro e w6 ⟨rfl, hb6⟩
                    obtain ⟨e0, e1, e2, e3, e4⟩ := box5 hb6
                    have B6 := Lib.hid (HB.out.alloc HB.out.size (.cells #[.int .i64 4, .int .u64 (a : Int), .int .i64 (b : Int), .int .u64 0, .int .u64 (c : Int)] 26))
                    have B6 := Lib.hid (B6.out.trans (hb6.mono B6.out.size))
                    go_wp2_with fail
                    with_reducible refine (KT.out _).mono ?_
                    rintro e w7 ⟨rfl, hb7⟩
                    clear e0 e1 e2 e3 e4
                    have hb67 := hb6.trans (hb7.mono hb6.size)
                    obtain ⟨e0, e1, e2, e3, e4⟩ := box5 hb67
                    have B7 := Lib.hid (B6.out.trans (hb7.mono B6.out.size))
                    clear hb6 hb7 hb67
                    have HQ := Lib.hid ((HQ0.out.keep HB5.out).keep B7.out)
                    obtain ⟨q0, q1, q2, q3, q4, qz⟩ := HQ.out.cells
                    go_wp2
                    clear q0 q1 q2 q3 q4 qz e0 e1 e2 e3 e4
                    show bodyPost _ _ _ _ _ (five _ w.heap.size 4 (a : Int) (b : Int) 0 (c : Int))
                    obtain ⟨g0, g1, g2, g3, g4⟩ := five_cells HQ.out 4 (a : Int) (b : Int) 0 (c : Int)
                    have hbw := HBW.out.trans ((HB5.out.trans (B7.out.mono HB5.out.size)).mono HBW.out.size)
                    exact bodyPost_ret (v := readV 4 (a : Int) (b : Int) 0 (c : Int) 0) (by simp [readV, results, Tryd.results21, go_sem, g0, g1, g2, g3, g4]) rfl ⟨rfl, five_below hbw (Nat.le_refl _) _ _ _ _ _⟩
            · subst h
              rw [show ((5 : Nat) : Int) = 5 from rfl]
              by_cases hcl : 999999999999999999 < a
              · have hclZ : (999999999999999999 : Int) < (a : Int) := by omega
                have HCl := Lib.hid hcl; clear hcl
                have HX : Hid (cand 5 a b c d = (⟨5, 0, 0, 0, 0⟩ : A)) := Lib.hid (by simp [cand, clamp, HCl.out])
                have KR : Hid (∀ w', Calls Tryd.prog 11 #[.agg #[.int .i64 5, .int .u64 0, .int .i64 0, .int .u64 0, .int .u64 0]] w' (Gives (.bool (Ac.right (⟨5, 0, 0, 0, 0⟩ : A))) w')) := Lib.hid fun w' => rright_any (⟨5, 0, 0, 0, 0⟩ : A) w'
                have KT : Hid (∀ w', Calls Tryd.prog 23 #[.agg #[.int .i64 5, .int .u64 0, .int .i64 0, .int .u64 0, .int .u64 0]] w' (Gives (.string ⟨(tx (⟨5, 0, 0, 0, 0⟩ : A)).toArray⟩) w')) := Lib.hid fun w' => rtext_any (⟨5, 0, 0, 0, 0⟩ : A) (by have h := (HFit.out 5).1; rw [HX.out] at h; exact h) w'
                have HO : Hid (Ac.right (⟨5, 0, 0, 0, 0⟩ : A) = false → okB l (cand 5 a b c d) = false) := Lib.hid (fun h => by rw [HX.out]; unfold okB; rw [h]; rfl)
                have HO2 : Hid (Ac.right (⟨5, 0, 0, 0, 0⟩ : A) = true → okB l (cand 5 a b c d) = ((⟨(tx (⟨5, 0, 0, 0, 0⟩ : A)).toArray⟩ : ByteArray).toList == s.toList)) := Lib.hid (fun h => by rw [HX.out, okB_iff h, ← HS.out])
                generalize Ac.right (⟨5, 0, 0, 0, 0⟩ : A) = rb at KR HO HO2
                generalize (⟨(tx (⟨5, 0, 0, 0, 0⟩ : A)).toArray⟩ : ByteArray) = tb at KT HO2
                cases rb with
                | false =>
                  have HE := HO.out rfl
                  go_wp2_with fail
                  with_reducible refine (KR.out _).mono ?_
                  rintro e w6 ⟨rfl, hb6⟩
                  obtain ⟨e0, e1, e2, e3, e4⟩ := box5 hb6
                  have B6 := Lib.hid (HB.out.alloc HB.out.size (.cells #[.int .i64 5, .int .u64 0, .int .i64 0, .int .u64 0, .int .u64 0] 26))
                  have B6 := Lib.hid (B6.out.trans (hb6.mono B6.out.size))
                  clear hb6
                  go_wp2
                  go_roundw
                  case rel => exact ⟨6, by omega, by rfl, no_next HNo.out HE, B6.out⟩
                  case measure => simp [intOf]
                | true =>
                  have HE := HO2.out rfl
                  cases hq : (tb.toList == s.toList) with
                  | false =>
                    rw [hq] at HE
                    go_wp2_with fail
                    with_reducible refine (KR.out _).mono ?_
                    rintro e w6 ⟨rfl, hb6⟩
                    obtain ⟨e0, e1, e2, e3, e4⟩ := box5 hb6
                    have B6 := Lib.hid (HB.out.alloc HB.out.size (.cells #[.int .i64 5, .int .u64 0, .int .i64 0, .int .u64 0, .int .u64 0] 26))
                    have B6 := Lib.hid (B6.out.trans (hb6.mono B6.out.size))
                    go_wp2_with fail
                    with_reducible refine (KT.out _).mono ?_
                    rintro e w7 ⟨rfl, hb7⟩
                    clear e0 e1 e2 e3 e4
                    have hb67 := hb6.trans (hb7.mono hb6.size)
                    obtain ⟨e0, e1, e2, e3, e4⟩ := box5 hb67
                    have B7 := Lib.hid (B6.out.trans (hb7.mono B6.out.size))
                    clear hb6 hb7 hb67
                    go_wp2
                    go_roundw
                    case rel => exact ⟨6, by omega, by rfl, no_next HNo.out HE, B7.out⟩
                    case measure => simp [intOf]
                  | true =>
                    rw [hq] at HE
                    have er : rd l = some (⟨5, 0, 0, 0, 0⟩ : A) := by rw [← HX.out]; exact rd_ok HE (HFit.out 5).1 (HFit.out 5).2
                    rw [er]
                    clear er
                    go_wp2_with fail
                    with_reducible refine (KR.out _).mono ?_
                    rintro e w6 ⟨rfl, hb6⟩
                    obtain ⟨e0, e1, e2, e3, e4⟩ := box5 hb6
                    have B6 := Lib.hid (HB.out.alloc HB.out.size (.cells #[.int .i64 5, .int .u64 0, .int .i64 0, .int .u64 0, .int .u64 0] 26))
                    have B6 := Lib.hid (B6.out.trans (hb6.mono B6.out.size))
                    go_wp2_with fail
                    with_reducible refine (KT.out _).mono ?_
                    rintro e w7 ⟨rfl, hb7⟩
                    clear e0 e1 e2 e3 e4
                    have hb67 := hb6.trans (hb7.mono hb6.size)
                    obtain ⟨e0, e1, e2, e3, e4⟩ := box5 hb67
                    have B7 := Lib.hid (B6.out.trans (hb7.mono B6.out.size))
                    clear hb6 hb7 hb67
                    have HQ := Lib.hid ((HQ0.out.keep HB5.out).keep B7.out)
                    obtain ⟨q0, q1, q2, q3, q4, qz⟩ := HQ.out.cells
                    go_wp2
                    clear q0 q1 q2 q3 q4 qz e0 e1 e2 e3 e4
                    show bodyPost _ _ _ _ _ (five _ w.heap.size 5 0 0 0 0)
                    obtain ⟨g0, g1, g2, g3, g4⟩ := five_cells HQ.out 5 0 0 0 0
                    have hbw := HBW.out.trans ((HB5.out.trans (B7.out.mono HB5.out.size)).mono HBW.out.size)
                    exact bodyPost_ret (v := readV 5 0 0 0 0 0) (by simp [readV, results, Tryd.results21, go_sem, g0, g1, g2, g3, g4]) rfl ⟨rfl, five_below hbw (Nat.le_refl _) _ _ _ _ _⟩
              · have hclZ : ¬ (999999999999999999 : Int) < (a : Int) := by omega
                have HCl := Lib.hid hcl; clear hcl
                have hbd : (a : Int) ≤ 999999999999999999 := by have := HCl.out; omega
                have HX : Hid (cand 5 a b c d = (⟨5, 0, (a : Int), 0, 0⟩ : A)) := Lib.hid (by simp [cand, clamp, HCl.out])
                have KR : Hid (∀ w', Calls Tryd.prog 11 #[.agg #[.int .i64 5, .int .u64 0, .int .i64 (a : Int), .int .u64 0, .int .u64 0]] w' (Gives (.bool (Ac.right (⟨5, 0, (a : Int), 0, 0⟩ : A))) w')) := Lib.hid fun w' => rright_any (⟨5, 0, (a : Int), 0, 0⟩ : A) w'
                have KT : Hid (∀ w', Calls Tryd.prog 23 #[.agg #[.int .i64 5, .int .u64 0, .int .i64 (a : Int), .int .u64 0, .int .u64 0]] w' (Gives (.string ⟨(tx (⟨5, 0, (a : Int), 0, 0⟩ : A)).toArray⟩) w')) := Lib.hid fun w' => rtext_any (⟨5, 0, (a : Int), 0, 0⟩ : A) (by have h := (HFit.out 5).1; rw [HX.out] at h; exact h) w'
                have HO : Hid (Ac.right (⟨5, 0, (a : Int), 0, 0⟩ : A) = false → okB l (cand 5 a b c d) = false) := Lib.hid (fun h => by rw [HX.out]; unfold okB; rw [h]; rfl)
                have HO2 : Hid (Ac.right (⟨5, 0, (a : Int), 0, 0⟩ : A) = true → okB l (cand 5 a b c d) = ((⟨(tx (⟨5, 0, (a : Int), 0, 0⟩ : A)).toArray⟩ : ByteArray).toList == s.toList)) := Lib.hid (fun h => by rw [HX.out, okB_iff h, ← HS.out])
                generalize Ac.right (⟨5, 0, (a : Int), 0, 0⟩ : A) = rb at KR HO HO2
                generalize (⟨(tx (⟨5, 0, (a : Int), 0, 0⟩ : A)).toArray⟩ : ByteArray) = tb at KT HO2
                cases rb with
                | false =>
                  have HE := HO.out rfl
                  go_wp2_with fail
                  with_reducible refine (KR.out _).mono ?_
                  rintro e w6 ⟨rfl, hb6⟩
                  obtain ⟨e0, e1, e2, e3, e4⟩ := box5 hb6
                  have B6 := Lib.hid (HB.out.alloc HB.out.size (.cells #[.int .i64 5, .int .u64 0, .int .i64 (a : Int), .int .u64 0, .int .u64 0] 26))
                  have B6 := Lib.hid (B6.out.trans (hb6.mono B6.out.size))
                  clear hb6
                  go_wp2
                  go_roundw
                  case rel => exact ⟨6, by omega, by rfl, no_next HNo.out HE, B6.out⟩
                  case measure => simp [intOf]
                | true =>
                  have HE := HO2.out rfl
                  cases hq : (tb.toList == s.toList) with
                  | false =>
                    rw [hq] at HE
                    go_wp2_with fail
                    with_reducible refine (KR.out _).mono ?_
                    rintro e w6 ⟨rfl, hb6⟩
                    obtain ⟨e0, e1, e2, e3, e4⟩ := box5 hb6
                    have B6 := Lib.hid (HB.out.alloc HB.out.size (.cells #[.int .i64 5, .int .u64 0, .int .i64 (a : Int), .int .u64 0, .int .u64 0] 26))
                    have B6 := Lib.hid (B6.out.trans (hb6.mono B6.out.size))
                    go_wp2_with fail
                    with_reducible refine (KT.out _).mono ?_
                    rintro e w7 ⟨rfl, hb7⟩
                    clear e0 e1 e2 e3 e4
                    have hb67 := hb6.trans (hb7.mono hb6.size)
                    obtain ⟨e0, e1, e2, e3, e4⟩ := box5 hb67
                    have B7 := Lib.hid (B6.out.trans (hb7.mono B6.out.size))
                    clear hb6 hb7 hb67
                    go_wp2
                    go_roundw
                    case rel => exact ⟨6, by omega, by rfl, no_next HNo.out HE, B7.out⟩
                    case measure => simp [intOf]
                  | true =>
                    rw [hq] at HE
                    have er : rd l = some (⟨5, 0, (a : Int), 0, 0⟩ : A) := by rw [← HX.out]; exact rd_ok HE (HFit.out 5).1 (HFit.out 5).2
                    rw [er]
                    clear er
                    go_wp2_with fail
                    with_reducible refine (KR.out _).mono ?_
                    rintro e w6 ⟨rfl, hb6⟩
                    obtain ⟨e0, e1, e2, e3, e4⟩ := box5 hb6
                    have B6 := Lib.hid (HB.out.alloc HB.out.size (.cells #[.int .i64 5, .int .u64 0, .int .i64 (a : Int), .int .u64 0, .int .u64 0] 26))
                    have B6 := Lib.hid (B6.out.trans (hb6.mono B6.out.size))
                    go_wp2_with fail
                    with_reducible refine (KT.out _).mono ?_
                    rintro e w7 ⟨rfl, hb7⟩
                    clear e0 e1 e2 e3 e4
                    have hb67 := hb6.trans (hb7.mono hb6.size)
                    obtain ⟨e0, e1, e2, e3, e4⟩ := box5 hb67
                    have B7 := Lib.hid (B6.out.trans (hb7.mono B6.out.size))
                    clear hb6 hb7 hb67
                    have HQ := Lib.hid ((HQ0.out.keep HB5.out).keep B7.out)
                    obtain ⟨q0, q1, q2, q3, q4, qz⟩ := HQ.out.cells
                    go_wp2
                    clear q0 q1 q2 q3 q4 qz e0 e1 e2 e3 e4
                    show bodyPost _ _ _ _ _ (five _ w.heap.size 5 0 (a : Int) 0 0)
                    obtain ⟨g0, g1, g2, g3, g4⟩ := five_cells HQ.out 5 0 (a : Int) 0 0
                    have hbw := HBW.out.trans ((HB5.out.trans (B7.out.mono HB5.out.size)).mono HBW.out.size)
                    exact bodyPost_ret (v := readV 5 0 (a : Int) 0 0 0) (by simp [readV, results, Tryd.results21, go_sem, g0, g1, g2, g3, g4]) rfl ⟨rfl, five_below hbw (Nat.le_refl _) _ _ _ _ _⟩
            · subst h
              rw [show ((6 : Nat) : Int) = 6 from rfl]
              have HX : Hid (cand 6 a b c d = (⟨6, a, 0, 0, 0⟩ : A)) := Lib.hid (by simp [cand])
              have KR : Hid (∀ w', Calls Tryd.prog 11 #[.agg #[.int .i64 6, .int .u64 (a : Int), .int .i64 0, .int .u64 0, .int .u64 0]] w' (Gives (.bool (Ac.right (⟨6, a, 0, 0, 0⟩ : A))) w')) := Lib.hid fun w' => rright_any (⟨6, a, 0, 0, 0⟩ : A) w'
              have KT : Hid (∀ w', Calls Tryd.prog 23 #[.agg #[.int .i64 6, .int .u64 (a : Int), .int .i64 0, .int .u64 0, .int .u64 0]] w' (Gives (.string ⟨(tx (⟨6, a, 0, 0, 0⟩ : A)).toArray⟩) w')) := Lib.hid fun w' => rtext_any (⟨6, a, 0, 0, 0⟩ : A) (by have h := (HFit.out 6).1; rw [HX.out] at h; exact h) w'
              have HO : Hid (Ac.right (⟨6, a, 0, 0, 0⟩ : A) = false → okB l (cand 6 a b c d) = false) := Lib.hid (fun h => by rw [HX.out]; unfold okB; rw [h]; rfl)
              have HO2 : Hid (Ac.right (⟨6, a, 0, 0, 0⟩ : A) = true → okB l (cand 6 a b c d) = ((⟨(tx (⟨6, a, 0, 0, 0⟩ : A)).toArray⟩ : ByteArray).toList == s.toList)) := Lib.hid (fun h => by rw [HX.out, okB_iff h, ← HS.out])
              generalize Ac.right (⟨6, a, 0, 0, 0⟩ : A) = rb at KR HO HO2
              generalize (⟨(tx (⟨6, a, 0, 0, 0⟩ : A)).toArray⟩ : ByteArray) = tb at KT HO2
              cases rb with
              | false =>
                have HE := HO.out rfl
                go_wp2_with fail
                with_reducible refine (KR.out _).mono ?_
                rintro e w6 ⟨rfl, hb6⟩
                obtain ⟨e0, e1, e2, e3, e4⟩ := box5 hb6
                have B6 := Lib.hid (HB.out.alloc HB.out.size (.cells #[.int .i64 6, .int .u64 (a : Int), .int .i64 0, .int .u64 0, .int .u64 0] 26))
                have B6 := Lib.hid (B6.out.trans (hb6.mono B6.out.size))
                clear hb6
                go_wp2
                go_roundw
                case rel => exact ⟨7, by omega, by rfl, no_next HNo.out HE, B6.out⟩
                case measure => simp [intOf]
              | true =>
                have HE := HO2.out rfl
                cases hq : (tb.toList == s.toList) with
                | false =>
                  rw [hq] at HE
                  go_wp2_with fail
                  with_reducible refine (KR.out _).mono ?_
                  rintro e w6 ⟨rfl, hb6⟩
                  obtain ⟨e0, e1, e2, e3, e4⟩ := box5 hb6
                  have B6 := Lib.hid (HB.out.alloc HB.out.size (.cells #[.int .i64 6, .int .u64 (a : Int), .int .i64 0, .int .u64 0, .int .u64 0] 26))
                  have B6 := Lib.hid (B6.out.trans (hb6.mono B6.out.size))
                  go_wp2_with fail
                  with_reducible refine (KT.out _).mono ?_
                  rintro e w7 ⟨rfl, hb7⟩
                  clear e0 e1 e2 e3 e4
                  have hb67 := hb6.trans (hb7.mono hb6.size)
                  obtain ⟨e0, e1, e2, e3, e4⟩ := box5 hb67
                  have B7 := Lib.hid (B6.out.trans (hb7.mono B6.out.size))
                  clear hb6 hb7 hb67
                  go_wp2
                  go_roundw
                  case rel => exact ⟨7, by omega, by rfl, no_next HNo.out HE, B7.out⟩
                  case measure => simp [intOf]
                | true =>
                  rw [hq] at HE
                  have er : rd l = some (⟨6, a, 0, 0, 0⟩ : A) := by rw [← HX.out]; exact rd_ok HE (HFit.out 6).1 (HFit.out 6).2
                  rw [er]
                  clear er
                  go_wp2_with fail
                  with_reducible refine (KR.out _).mono ?_
                  rintro e w6 ⟨rfl, hb6⟩
                  obtain ⟨e0, e1, e2, e3, e4⟩ := box5 hb6
                  have B6 := Lib.hid (HB.out.alloc HB.out.size (.cells #[.int .i64 6, .int .u64 (a : Int), .int .i64 0, .int .u64 0, .int .u64 0] 26))
                  have B6 := Lib.hid (B6.out.trans (hb6.mono B6.out.size))
                  go_wp2_with fail
                  with_reducible refine (KT.out _).mono ?_
                  rintro e w7 ⟨rfl, hb7⟩
                  clear e0 e1 e2 e3 e4
                  have hb67 := hb6.trans (hb7.mono hb6.size)
                  obtain ⟨e0, e1, e2, e3, e4⟩ := box5 hb67
                  have B7 := Lib.hid (B6.out.trans (hb7.mono B6.out.size))
                  clear hb6 hb7 hb67
                  have HQ := Lib.hid ((HQ0.out.keep HB5.out).keep B7.out)
                  obtain ⟨q0, q1, q2, q3, q4, qz⟩ := HQ.out.cells
                  go_wp2
                  clear q0 q1 q2 q3 q4 qz e0 e1 e2 e3 e4
                  show bodyPost _ _ _ _ _ (five _ w.heap.size 6 (a : Int) 0 0 0)
                  obtain ⟨g0, g1, g2, g3, g4⟩ := five_cells HQ.out 6 (a : Int) 0 0 0
                  have hbw := HBW.out.trans ((HB5.out.trans (B7.out.mono HB5.out.size)).mono HBW.out.size)
                  exact bodyPost_ret (v := readV 6 (a : Int) 0 0 0 0) (by simp [readV, results, Tryd.results21, go_sem, g0, g1, g2, g3, g4]) rfl ⟨rfl, five_below hbw (Nat.le_refl _) _ _ _ _ _⟩
            · subst h
              rw [show ((7 : Nat) : Int) = 7 from rfl]
              have er : Hid (rd l = none) := Lib.hid (HRN.out HNo.out)
              have HQ := Lib.hid ((HQ0.out.keep HB5.out).keep HB.out)
              obtain ⟨q0, q1, q2, q3, q4, qz⟩ := HQ.out.cells
              go_wp2
              clear q0 q1 q2 q3 q4 qz
              show bodyPost _ _ _ _ _ (five _ w.heap.size 0 0 0 0 0)
              obtain ⟨g0, g1, g2, g3, g4⟩ := five_cells HQ.out 0 0 0 0 0
              have hbw := HBW.out.trans ((HB5.out.trans (HB.out.mono HB5.out.size)).mono HBW.out.size)
              exact bodyPost_ret (v := readV 0 0 0 0 0 3) (by simp [readV, results, Tryd.results21, go_sem, g0, g1, g2, g3, g4]) rfl ⟨by rw [er.out]; rfl, five_below hbw (Nat.le_refl _) _ _ _ _ _⟩

end Go.Proofs.YthgabbkpjffdnaaDoor
