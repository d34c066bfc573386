/-
  The walk of the document's Seek on a tape, who looks alone. By an AI agent.
-/
import Derived.Test.YtknefjigdlbacaaGreatDoorSkRefA
set_option linter.unusedSimpArgs false
set_option linter.unusedVariables false
namespace Go.Proofs.YtknefjigdlbacaaGreatDoor
open Go.RowKit Go.Maps
open Ac (A)
set_option maxRecDepth 100000 in
set_option maxHeartbeats 8000000 in
theorem rseek_look {B : Nat} {w : World} {t cc : Nat} {ad : Option Addr} {GS : List Nat} {X : A} {chk : Bool} (c : Sk.C) (h : Ts B w t ad GS cc 0 X) (hl : c.lay = 0)
    (hX : (Sk.run c chk GS).p ≠ 0 → X = Sk.act c (Sk.run c chk GS)) (ho : Sk.Ok c) (hh : c.h = Mx.hsh c.sd c.key) (hkey : c.key.length ≤ 16) (hsd : c.sd < 18446744073709551616)
    (hw : ∀ x ∈ GS, x < 18446744073709551616) (hm : GS.length ≤ 1000) :
    Calls Tryz.prog 12 #[.pointer (some ⟨t, 0, none⟩), .agg (siteC (c.d : Int) (c.th : Int) c.nn c.kp (c.sd : Int)), .agg #[.int .u64 (c.b : Int), .int .i64 c.lg], .string ⟨c.key.toArray⟩, .int .u64 (c.lay : Int), .bool chk] w (Sdone B t ad cc X c chk GS w) := by
  obtain ⟨z, hz⟩ : ∃ z, z = w.heap.size := ⟨_, rfl⟩
  have htz : t < z := by rw [hz]; exact h.own.lt
  obtain ⟨W, hW⟩ : ∃ W, W = b3 w (siteC (c.d : Int) (c.th : Int) c.nn c.kp (c.sd : Int)) #[.int .u64 (c.b : Int), .int .i64 c.lg] (.cells fz4 46) := ⟨_, rfl⟩
  obtain ⟨o0, o1, o2, o3⟩ := b3_at w _ _ _ W hW
  have hbW : Below w.heap.size w W := by rw [hW]; exact b3_below w _ _ _
  rw [← hz] at o0 o1 o2 o3
  have hcl := Sk.cl_bd c ho.h
  have KH := Lib.hid (fun V => rhash_any c.sd ⟨c.key.toArray⟩ V hsd (by show c.key.toArray.size ≤ maxLen; unfold maxLen; simp; omega))
  rw [show ((⟨c.key.toArray⟩ : ByteArray)).data.toList = c.key from rfl, ← hh] at KH
  have KC : Hid (∀ V, Calls Tryz.prog 44 #[.int .u64 (c.h : Int)] V (Same (.int .i64 (Sk.cl c)) V)) := Lib.hid (fun V => rclaim_any (c.h : Int) V (by omega) (by have := ho.h; omega))
  have KA := Lib.hid (fun V => rall_any c.h (by have := ho.h; omega) c.lg V)
  have d4 : W.cell? ⟨z, 4, none⟩ = some (.int .u64 (c.sd : Int)) := by simp [World.cell?, o0]
  have d1 : W.cell? ⟨z + 1, 1, none⟩ = some (.int .i64 c.lg) := by simp [World.cell?, o1]
  have e0 : ((c.lay : Int) != 0) = false := by simp; omega
  obtain ⟨l, hl'⟩ : ∃ l, l = Rt.way (c.h / 128) (Rt.grp c.lg) := ⟨_, rfl⟩
  have hlen : l.length = Tb.grp c.lg := by rw [hl', Rt.way_len]; rfl
  have hlg : ∀ n, n < Tb.grp c.lg → ((l.getD n 0 : Nat) : Int) = Rt.gp c.h c.lg n := fun n hn => by
    have hn2 : n < l.length := by rw [hlen]; exact hn
    rw [List.getD_eq_getElem?_getD, List.getElem?_eq_getElem hn2, Rt.gp_in (by rw [Sk.grp_eq]; exact hn)]
    show ((l[n] : Nat) : Int) = _
    have e : l[n] = Rt.gat (c.h / 128) (Rt.grp c.lg) n := by
      subst hl'
      exact Rt.wayTo_get hn2
    rw [e]
  rw [← hl'] at KA
  have HW := Lib.hid hW
  have HZ := Lib.hid hz
  have HB := Lib.hid hbW
  have HO0 := Lib.hid (show _ ∧ _ ∧ _ ∧ _ from ⟨o0, o1, o2, o3⟩)
  have HTS := Lib.hid (h.below hbW)
  have HT := Lib.hid htz
  have HTW := Lib.hid (show t < w.heap.size from h.own.lt)
  have HX := Lib.hid hX
  have HOK := Lib.hid ho
  have HWF := Lib.hid hw
  have HM := Lib.hid hm
  have HLG := Lib.hid hlg
  have HLL := Lib.hid hl
  have HLEN := Lib.hid hlen
  clear h hX ho hh hkey hsd hw hm hW hbW o0 o1 o2 o3 hl' hlg hz htz hl
  go_enter Tryz.func12, Tryz.ntmps12
  go_wp2_with fail
  rw [show ((w.alloc (.cells (siteC (c.d : Int) (c.th : Int) c.nn c.kp (c.sd : Int)) 26)).alloc (.cells #[.int .u64 (c.b : Int), .int .i64 c.lg] 24)).alloc (.cells #[.int .i64 0, .int .i64 0, .int .u64 0, .string ⟨#[]⟩] 46) = W from HW.out.symm, ← HZ.out]
  with_reducible refine (KH.out W).mono ?_
  rintro e w0 ⟨rfl, rfl⟩
  go_wp2_with fail
  with_reducible refine (KC.out W).mono ?_
  rintro e w0 ⟨rfl, rfl⟩
  go_wp2_with fail
  with_reducible refine (KA.out W).mono ?_
  rintro e w1 ⟨A0, cp, rfl, hrow, hb1⟩
  obtain ⟨g, cg, hsl⟩ : ∃ g cg, (Value.slice A0 (asI l).length cp) = .slice (some ⟨g, 0, none⟩) (asI l).length cg ∧ w.heap.size ≤ g := by
    rcases hrow.2 with ⟨e1, e2⟩ | ⟨g, cap, cur, e1, e2, -⟩
    · rw [asI_len, HLEN.out] at e2; have := HOK.out.lg; omega
    · exact ⟨g, cap, e1, by have := HO0.out.2.2.2; have := HZ.out; omega⟩
  obtain ⟨hsl, hwg⟩ := hsl
  rw [hsl] at hrow ⊢
  have henv : (Env z g (siteC (c.d : Int) (c.th : Int) c.nn c.kp (c.sd : Int)) #[.int .u64 (c.b : Int), .int .i64 c.lg] l) w1 := by
    have hb : ∀ {k : Nat} {o : Obj}, W.heap[k]? = some o → w1.heap[k]? = some o := fun {k o} ho => (hb1.block k (Array.getElem?_eq_some_iff.1 ho).1).trans ho
    refine ⟨hb HO0.out.1, hb HO0.out.2.1, hb HO0.out.2.2.1, fun n hn => ?_, ?_⟩
    · have := hrow.cellAt n (by rw [asI_len]; omega)
      rw [this, List.getElem?_map]
      show Option.map _ ((l.map fun k : Nat => (k : Int))[n]?) = _
      rw [List.getElem?_map, List.getElem?_eq_getElem hn, List.getD_eq_getElem?_getD, List.getElem?_eq_getElem hn]
      rfl
    · rcases hrow.2 with ⟨e1, -⟩ | ⟨g', cap, cur, e1, -, e3, -⟩
      · cases e1
      · injection e1 with e1; injection e1 with e1; injection e1 with e1
        subst e1
        exact (Array.getElem?_eq_some_iff.1 e3).1
  have hgt : g ≠ t := by have := HTW.out; omega
  have HC1 := Lib.hid (show Chg t w w1 from (show Chg t w W from Tn.of_below HB.out).trans (Tn.of_below hb1))
  have HENV : Hid (∀ V, Chg t w1 V → (Env z g (siteC (c.d : Int) (c.th : Int) c.nn c.kp (c.sd : Int)) #[.int .u64 (c.b : Int), .int .i64 c.lg] l) V) := Lib.hid (fun V hc => henv.chg HT.out hgt hc)
  have HT1 := Lib.hid (HTS.out.below hb1)
  have hll : (asI l).length = Tb.grp c.lg := by rw [asI_len, HLEN.out]
  rw [hll]
  clear henv hgt hwg hrow hsl hb1 hll
  go_wp2
  go_loopw [5, 17, 18, 19, 20, 21, 22, 23, 24, 25, 26, 27] (fun v5 v17 _ _ _ _ _ _ _ _ _ _ wr => ∃ (n k : Nat) (S : Sk.S), v5 = .bool S.chk ∧ v17 = .int .i64 (n : Int) ∧ n ≤ Tb.grp c.lg ∧ k ≤ GS.length ∧ At c chk GS k (Sk.toG c S n) ∧ Ts B wr t ad GS cc k X ∧ Chg t w1 wr)
    (fun _ v17 _ _ _ _ _ _ _ _ _ _ _ => Tb.grp c.lg - (intOf v17).toNat)
  case atStart => exact ⟨0, 0, Sk.zero chk, rfl, rfl, by omega, by omega, ⟨fun _ => rfl, fun h => by omega⟩, HT1.out, Chg.refl _ _⟩
  case round =>
    obtain ⟨n, k, S, rfl, rfl, hn, hk, hat, hts, hch⟩ := hrel
    have hgl := Tb.grp_le c.lg
    by_cases hlt : n < Tb.grp c.lg
    · rw [toG_in hlt] at hat
      have env := HENV.out wr hch
      have row := env.row n (by rw [HLEN.out]; exact hlt)
      rw [HLG.out n hlt] at row
      have hgp : 0 ≤ Rt.gp c.h c.lg n ∧ Rt.gp c.h c.lg n < Tb.grp c.lg := by
        rw [Rt.gp_in (by rw [Sk.grp_eq]; exact hlt)]
        have := Rt.gat_lt (s := c.h / 128) (n := Rt.grp c.lg) (i := n) (by rw [Sk.grp_eq]; omega)
        rw [Sk.grp_eq] at this ⊢
        omega
      obtain ⟨gn, hgn⟩ : ∃ gn, gn = Rt.gp c.h c.lg n := ⟨_, rfl⟩
      rw [← hgn] at row hgp
      rw [← hgn] at hat
      obtain ⟨cl, hcl⟩ : ∃ cl : Nat, (cl : Int) = Tb.gc (Tb.grp c.lg) gn := ⟨(7 + gn).toNat, by rw [Tb.gc_in hgp.1 hgp.2]; omega⟩
      have KG := Lib.hid (fun V => trgroup_any c.lg gn V (by omega) (by omega))
      rw [← hcl] at KG
      obtain ⟨s1, hs1⟩ : ∃ s1 : Sk.S, s1 = { S with n := n, g := gn, p := 1 } := ⟨_, rfl⟩
      rw [← hs1] at hat
      have hp1 : s1.p = 1 := by rw [hs1]
      have hg1 : s1.g = gn := by rw [hs1]
      have KL := tload_any c.b cl (hts.below (Below.refl _ wr).drew) (fun e => hat.act HX.out (by omega) e (by
        unfold Sk.act Sk.gcell
        rw [if_pos hp1, hg1, hcl])) (by have := HM.out; omega)
      have d0 : wr.cell? ⟨z + 1, 0, none⟩ = some (.int .u64 (c.b : Int)) := by simp [World.cell?, env.table]
      have d1 : wr.cell? ⟨z + 1, 1, none⟩ = some (.int .i64 c.lg) := by simp [World.cell?, env.table]
      have hltI : (n : Int) < (Tb.grp c.lg : Int) := by omega
      have hn512 : (n : Int) ≤ 512 := by omega
      have hv := Rd.wf_getD HWF.out k
      have hat2 := hat.one (by omega) (step_1 c hp1 (GS.getD k 0))
      obtain ⟨v, hvv⟩ : ∃ v, v = GS.getD k 0 := ⟨_, rfl⟩
      rw [← hvv] at KL hat2 hv
      have HAT := Lib.hid hat2
      have KL := Lib.hid KL
      have HCH := Lib.hid hch
      have HV := Lib.hid hv
      have HGP := Lib.hid hgp
      have HCL := Lib.hid hcl
      have HGN := Lib.hid hgn
      have HS1 := Lib.hid hs1
      have HN := Lib.hid (show n < Tb.grp c.lg ∧ k ≤ GS.length ∧ Tb.grp c.lg ≤ 512 from ⟨hlt, hk, hgl⟩)
      have HD0 := Lib.hid d0
      clear hts hch hat hat2 env hgp hp1 hg1 hs1 hv hvv hn hk hgl hgn hcl hlt d0
      go_wp2
      go_region_held3 (fun w' => w'.cell? ⟨z + 1, 1, none⟩ = some (.int .i64 c.lg) ∧ w'.cell? ⟨g, n, none⟩ = some (.int .i64 gn))
        (first | exact ⟨d1, row⟩ | fail)
        (first | (go_at_call 46; refine (KG.out _).mono ?_; rintro e w2 ⟨rfl, rfl⟩) | fail)
      clear KG row d1
      have d0 : wr.cell? ⟨z + 1, 0, none⟩ = some (.int .u64 (c.b : Int)) := HD0.out
      go_wp2_with fail
      with_reducible refine KL.out.mono ?_
      rintro e w2 ⟨rfl, h1, h2⟩
      have HT2 := Lib.hid h1
      have HC2 := Lib.hid (HCH.out.trans ((show Chg t wr wr.drew from Tn.of_below (Below.refl _ wr).drew).trans h2))
      clear h1 h2 KL HD0 HCH d0
      go_wp2
      go_loopw [5, 19, 20, 21, 22, 23, 24, 25, 26, 27] (fun v5 v19 v20 _ _ _ _ _ _ _ wr => ∃ (k : Nat) (T : Sk.S), v5 = .bool T.chk ∧ v19 = .int .u64 (T.w : Int) ∧ v20 = .int .i64 (T.i : Int) ∧ T.w < 18446744073709551616 ∧ T.i ≤ 8 ∧ T.n = n ∧ T.g = gn ∧ At c chk GS k (Sk.goOn c T) ∧ Ts B wr t ad GS cc k X ∧ Chg t w1 wr)
        (fun _ _ _ _ _ _ _ _ _ _ wr => tat t GS.length wr)
      case atStart =>
        have e := HS1.out
        refine ⟨k + 1, { s1 with w := v, i := 0 }, ?_, rfl, rfl, HV.out, by show (0 : Nat) ≤ 8; omega, ?_, ?_, HAT.out, HT2.out, HC2.out⟩ <;> rw [e]
      case round =>
        clear HT2 HC2 HAT HV
        obtain ⟨k2, T, rfl, rfl, rfl, hTw, hTi, hTn, hTg, hat, hts, hch⟩ := hrel
        have env := HENV.out wr hch
        have o2 := hts.own.c2
        by_cases hov : GS.length < k2
        · rw [decide_eq_true hov] at o2
          have d0 : wr.cell? ⟨z + 1 + 1, 0, none⟩ = some (.int .i64 0) := by simp [World.cell?, env.found]
          have d1 : wr.cell? ⟨z + 1 + 1, 1, none⟩ = some (.int .i64 0) := by simp [World.cell?, env.found]
          have d2 : wr.cell? ⟨z + 1 + 1, 2, none⟩ = some (.int .u64 0) := by simp [World.cell?, env.found]
          have d3 : wr.cell? ⟨z + 1 + 1, 3, none⟩ = some (.string ⟨#[]⟩) := by simp [World.cell?, env.found]
          have f20 : wr.frozen? ⟨z + 1 + 1, 0, none⟩ = false := by simp [World.frozen?, env.found]
          have f21 : wr.frozen? ⟨z + 1 + 1, 1, none⟩ = false := by simp [World.frozen?, env.found]
          have f22 : wr.frozen? ⟨z + 1 + 1, 2, none⟩ = false := by simp [World.frozen?, env.found]
          have f23 : wr.frozen? ⟨z + 1 + 1, 3, none⟩ = false := by simp [World.frozen?, env.found]
          have HA := Lib.hid hat
          have HTT := Lib.hid hts
          have HCC := Lib.hid (HC1.out.trans hch)
          have HOVV := Lib.hid hov
          clear hat hts hch env hTw hTi hTn hTg hov
          go_wp2
          refine bodyPost_ret (v := fv Sk.F.z) (by simp [results, Tryz.results12, go_sem, d0, d1, d2, d3]) rfl ?_
          exact ⟨Sk.F.z, k2, rfl, by decide, ts_set4 HTT.out (by have := HT.out; omega) _ _ _ _, fun h => absurd h (by have := HOVV.out; omega), fun _ => HA.out.over HOVV.out, HCC.out.then_below (set4_below _ (by have := HZ.out; omega) _ _ _ _)⟩
        · rw [decide_eq_false hov] at o2
          have KN := Lib.hid (fun V => rctnext_any (T.w : Int) (T.i : Int) (Sk.cl c) V (by omega) (by omega))
          rw [← Sk.nxp_nat] at KN
          unfold ctwo at KN
          have hcb : 0 ≤ Ct.nxc T.w T.i (Sk.cl c) ∧ Ct.nxc T.w T.i (Sk.cl c) ≤ 3 := by
            have := Ct.cls_bd (T.w : Int) (Ct.nxp T.w T.i (Sk.cl c)) (Sk.cl c)
            unfold Ct.nxc; split <;> omega
          have hnb := Ct.nxp_bd T.w T.i (Sk.cl c)
          have hn8 := Sk.nx_small T.w T.i (Sk.cl c)
          have hnn := Sk.nxp_nat T.w T.i (Sk.cl c)
          obtain ⟨np, hnp⟩ : ∃ np, np = (Ct.nxp T.w T.i (Sk.cl c)).toNat := ⟨_, rfl⟩
          obtain ⟨kk, hkk⟩ : ∃ kk, kk = Ct.nxc T.w T.i (Sk.cl c) := ⟨_, rfl⟩
          rw [← hnp, ← hkk] at KN
          rw [← hkk] at hcb hn8
          rw [← hnp] at hnn
          have hnp8 : np ≤ 8 := by omega
          have HKK := Lib.hid (show Ct.nxc T.w T.i (Sk.cl c) = kk ∧ (Ct.nxp T.w T.i (Sk.cl c)).toNat = np ∧ T.w < 18446744073709551616 ∧ T.n = n ∧ T.g = gn ∧ k2 ≤ GS.length ∧ (kk ≠ 0 → np < 8) from ⟨hkk.symm, hnp.symm, hTw, hTn, hTg, by omega, fun h => by have := hn8 h; omega⟩)
          have HA := Lib.hid hat
          have HTT := Lib.hid hts
          have HCH := Lib.hid hch
          have HENVW := Lib.hid env
          clear hat hts hch env hTw hTi hTn hTg hov hnb hn8 hnn hnp hkk
          obtain rfl | rfl | rfl | rfl : kk = 0 ∨ kk = 2 ∨ kk = 1 ∨ kk = 3 := by omega
          · -- no such place: the next group
            have o2' := o2
            go_wp2_with fail
            with_reducible refine (KN.out _).mono ?_
            rintro e w3 ⟨rfl, rfl⟩
            go_wp2
            go_roundw
            case rel =>
              have hk := HKK.out
              refine ⟨n + 1, k2, { T with i := np }, rfl, by go_num, by have := HN.out; omega, hk.2.2.2.2.2.1, HA.out.eq ?_, HTT.out, HCH.out⟩
              rw [goOn_0 hk.1, hk.2.1, hk.2.2.2.1]
            case measure => have := HN.out; simp [intOf]; omega
          · -- sealed
            have d0 : wr.cell? ⟨z + 1 + 1, 0, none⟩ = some (.int .i64 0) := by simp [World.cell?, HENVW.out.found]
            have d1 : wr.cell? ⟨z + 1 + 1, 1, none⟩ = some (.int .i64 0) := by simp [World.cell?, HENVW.out.found]
            have d2 : wr.cell? ⟨z + 1 + 1, 2, none⟩ = some (.int .u64 0) := by simp [World.cell?, HENVW.out.found]
            have d3 : wr.cell? ⟨z + 1 + 1, 3, none⟩ = some (.string ⟨#[]⟩) := by simp [World.cell?, HENVW.out.found]
            have f20 : wr.frozen? ⟨z + 1 + 1, 0, none⟩ = false := by simp [World.frozen?, HENVW.out.found]
            have f21 : wr.frozen? ⟨z + 1 + 1, 1, none⟩ = false := by simp [World.frozen?, HENVW.out.found]
            have f22 : wr.frozen? ⟨z + 1 + 1, 2, none⟩ = false := by simp [World.frozen?, HENVW.out.found]
            have f23 : wr.frozen? ⟨z + 1 + 1, 3, none⟩ = false := by simp [World.frozen?, HENVW.out.found]
            go_wp2_with fail
            with_reducible refine (KN.out _).mono ?_
            rintro e w3 ⟨rfl, rfl⟩
            go_wp2
            refine bodyPost_ret (v := fv ⟨4, 0, 0, []⟩) (by simp [results, Tryz.results12, go_sem, d0, d1, d2, d3]) rfl ?_
            exact sdone_of (ts_set4 HTT.out (by have := HT.out; omega) _ _ _ _) (by decide) (HA.out.eq (goOn_2 HKK.out.1)) ((HC1.out.trans HCH.out).then_below (set4_below _ (by have := HZ.out; omega) _ _ _ _))
          · -- free
            obtain ⟨sl, hsl⟩ : ∃ sl : Nat, (sl : Int) = Tb.sc (Tb.grp c.lg) gn np := ⟨(7 + (Tb.grp c.lg : Int) + 8 * gn + np).toNat, by rw [Tb.sc_in HGP.out.1 HGP.out.2 (by omega) (by have := HKK.out.2.2.2.2.2.2 (by omega); omega)]; have := HGP.out; omega⟩
            have KSL := Lib.hid (fun V => trslot_any c.lg gn (np : Int) V (by have := HGP.out; have := HN.out; omega) (by have := HGP.out; have := HN.out; omega) (by omega) (by omega))
            rw [← hsl] at KSL
            have HSL := Lib.hid hsl
            have d1 : wr.cell? ⟨z + 1, 1, none⟩ = some (.int .i64 c.lg) := by simp [World.cell?, HENVW.out.table]
            have row := HENVW.out.row n (by rw [HLEN.out]; exact HN.out.1)
            rw [HLG.out n HN.out.1, show Rt.gp c.h c.lg n = gn from HGN.out.symm] at row
            have HDR := Lib.hid (show Chg t w1 wr.drew from HCH.out.trans (Tn.of_below (Below.refl _ wr).drew))
            have HTD := Lib.hid (HTT.out.below (Below.refl _ wr).drew)
            clear hsl
            go_wp2_with fail
            with_reducible refine (KN.out _).mono ?_
            rintro e w3 ⟨rfl, rfl⟩
            go_wp2
            go_region_held3 (fun w' => w'.cell? ⟨z + 1, 1, none⟩ = some (.int .i64 c.lg) ∧ w'.cell? ⟨g, n, none⟩ = some (.int .i64 gn))
              (first | exact ⟨d1, row⟩ | fail)
              (first | (go_at_call 49; refine (KSL.out _).mono ?_; rintro e w2 ⟨rfl, rfl⟩) | fail)
            clear d1 row KSL o2
            have d0 : wr.cell? ⟨z + 1 + 1, 0, none⟩ = some (.int .i64 0) := by simp [World.cell?, HENVW.out.found]
            have d1 : wr.cell? ⟨z + 1 + 1, 1, none⟩ = some (.int .i64 0) := by simp [World.cell?, HENVW.out.found]
            have d2 : wr.cell? ⟨z + 1 + 1, 2, none⟩ = some (.int .u64 0) := by simp [World.cell?, HENVW.out.found]
            have d3 : wr.cell? ⟨z + 1 + 1, 3, none⟩ = some (.string ⟨#[]⟩) := by simp [World.cell?, HENVW.out.found]
            have f20 : wr.frozen? ⟨z + 1 + 1, 0, none⟩ = false := by simp [World.frozen?, HENVW.out.found]
            have f21 : wr.frozen? ⟨z + 1 + 1, 1, none⟩ = false := by simp [World.frozen?, HENVW.out.found]
            have f22 : wr.frozen? ⟨z + 1 + 1, 2, none⟩ = false := by simp [World.frozen?, HENVW.out.found]
            have f23 : wr.frozen? ⟨z + 1 + 1, 3, none⟩ = false := by simp [World.frozen?, HENVW.out.found]
            go_wp2
            refine bodyPost_ret (v := fv ⟨1, 0, 0, []⟩) (by simp [results, Tryz.results12, go_sem, d0, d1, d2, d3]) rfl ?_
            exact sdone_of ((ts_set4 HTT.out (by have := HT.out; omega) _ _ _ _).below (Below.refl _ _).drew) (by decide) (HA.out.eq ((goOn_1 HKK.out.1).trans (if_pos HLL.out))) ((HC1.out.trans HCH.out).then_below ((set4_below _ (by have := HZ.out; omega) _ _ _ _).drew))
          · -- own
            obtain ⟨sl, hsl⟩ : ∃ sl : Nat, (sl : Int) = Tb.sc (Tb.grp c.lg) gn np := ⟨(7 + (Tb.grp c.lg : Int) + 8 * gn + np).toNat, by rw [Tb.sc_in HGP.out.1 HGP.out.2 (by omega) (by have := HKK.out.2.2.2.2.2.2 (by omega); omega)]; have := HGP.out; omega⟩
            have KSL := Lib.hid (fun V => trslot_any c.lg gn (np : Int) V (by have := HGP.out; have := HN.out; omega) (by have := HGP.out; have := HN.out; omega) (by omega) (by omega))
            rw [← hsl] at KSL
            have HSL := Lib.hid hsl
            have d1 : wr.cell? ⟨z + 1, 1, none⟩ = some (.int .i64 c.lg) := by simp [World.cell?, HENVW.out.table]
            have row := HENVW.out.row n (by rw [HLEN.out]; exact HN.out.1)
            rw [HLG.out n HN.out.1, show Rt.gp c.h c.lg n = gn from HGN.out.symm] at row
            have HDR := Lib.hid (show Chg t w1 wr.drew from HCH.out.trans (Tn.of_below (Below.refl _ wr).drew))
            have HTD := Lib.hid (HTT.out.below (Below.refl _ wr).drew)
            clear hsl
            go_wp2_with fail
            with_reducible refine (KN.out _).mono ?_
            rintro e w3 ⟨rfl, rfl⟩
            go_wp2
            go_region_held3 (fun w' => w'.cell? ⟨z + 1, 1, none⟩ = some (.int .i64 c.lg) ∧ w'.cell? ⟨g, n, none⟩ = some (.int .i64 gn))
              (first | exact ⟨d1, row⟩ | fail)
              (first | (go_at_call 49; refine (KSL.out _).mono ?_; rintro e w2 ⟨rfl, rfl⟩) | fail)
            clear d1 row KSL o2
            obtain ⟨S5, hS5⟩ : ∃ S5 : Sk.S, S5 = { T with i := np, p := 5 } := ⟨_, rfl⟩
            have ha5 : At c chk GS k2 S5 := HA.out.eq (by rw [goOn_3 HKK.out.1, HKK.out.2.1, hS5])
            have hp5 : S5.p = 5 := by rw [hS5]
            have hsc : Sk.scell c S5 = (sl : Int) := by
              unfold Sk.scell
              rw [HSL.out, hS5]
              show Tb.sc (Tb.grp c.lg) T.g np = _
              rw [HKK.out.2.2.2.2.1]
            have HS5 := Lib.hid (show S5.p = 5 ∧ Sk.scell c S5 = (sl : Int) from ⟨hp5, hsc⟩)
            have HSI := Lib.hid (show S5.i = np ∧ S5.n = n ∧ S5.g = gn by rw [hS5]; exact ⟨rfl, HKK.out.2.2.2.1, HKK.out.2.2.2.2.1⟩)
            have HSW := Lib.hid (show S5.chk = T.chk ∧ S5.w = T.w ∧ T.w < 18446744073709551616 by rw [hS5]; exact ⟨rfl, rfl, HKK.out.2.2.1⟩)
            have KL := Lib.hid (tload_any c.b sl HTD.out (fun e => ha5.act HX.out (by omega) e (by rw [act_p5 hp5, hsc])) (by have := HM.out; omega))
            have hxx := Rd.wf_getD HWF.out k2
            have hat6 := ha5.one (by omega) (step_56 c (.inl hp5) (GS.getD k2 0))
            obtain ⟨x, hx⟩ : ∃ x, x = GS.getD k2 0 := ⟨_, rfl⟩
            rw [← hx] at hxx hat6 KL
            have HXX := Lib.hid hxx
            have HA6 := Lib.hid hat6
            have d0 : wr.cell? ⟨z + 1, 0, none⟩ = some (.int .u64 (c.b : Int)) := by simp [World.cell?, HENVW.out.table]
            clear hS5 ha5 hp5 hsc hxx hat6 hx
            go_wp2_with fail
            with_reducible refine KL.out.mono ?_
            rintro e w3 ⟨rfl, hts3, hc3⟩
            have HT3 := Lib.hid hts3
            have HC3 := Lib.hid (HDR.out.trans hc3)
            clear hts3 hc3 KL d0
            by_cases hx0 : x = 0
            · have ex : ((x : Int) == 0) = true := by simp; omega
              have el : ((c.lay : Int) == 0) = true := by have := HLL.out; simp; omega
              have env3 := HENV.out w3 HC3.out
              have d0 : w3.cell? ⟨z + 1 + 1, 0, none⟩ = some (.int .i64 0) := by simp [World.cell?, env3.found]
              have d1 : w3.cell? ⟨z + 1 + 1, 1, none⟩ = some (.int .i64 0) := by simp [World.cell?, env3.found]
              have d2 : w3.cell? ⟨z + 1 + 1, 2, none⟩ = some (.int .u64 0) := by simp [World.cell?, env3.found]
              have d3 : w3.cell? ⟨z + 1 + 1, 3, none⟩ = some (.string ⟨#[]⟩) := by simp [World.cell?, env3.found]
              have f20 : w3.frozen? ⟨z + 1 + 1, 0, none⟩ = false := by simp [World.frozen?, env3.found]
              have f21 : w3.frozen? ⟨z + 1 + 1, 1, none⟩ = false := by simp [World.frozen?, env3.found]
              have f22 : w3.frozen? ⟨z + 1 + 1, 2, none⟩ = false := by simp [World.frozen?, env3.found]
              have f23 : w3.frozen? ⟨z + 1 + 1, 3, none⟩ = false := by simp [World.frozen?, env3.found]
              have HX0 := Lib.hid hx0
              have hat7 : At c chk GS (k2 + 1) (Sk.fin S5 ⟨1, 0, 0, []⟩) := HA6.out.eq (by
                rw [hx0]
                unfold Sk.told
                rw [if_pos rfl, if_neg (by have := HS5.out.1; omega), if_pos HLL.out]
                rfl)
              have HA7 := Lib.hid hat7
              clear hx0 hat7 env3
              go_wp2
              refine bodyPost_ret (v := fv ⟨1, 0, 0, []⟩) (by simp [results, Tryz.results12, go_sem, d0, d1, d2, d3]) rfl ?_
              exact sdone_of (ts_set4 HT3.out (by have := HT.out; omega) _ _ _ _) (by decide) HA7.out ((HC1.out.trans HC3.out).then_below (set4_below _ (by have := HZ.out; omega) _ _ _ _))
            have ex : ((x : Int) == 0) = false := by simp; omega
            have hat7 : At c chk GS (k2 + 1) (Sk.aft c (Sk.exam S5 x)) := HA6.out.eq (by
              unfold Sk.told
              rw [if_neg hx0])
            have HA7 := Lib.hid hat7
            clear hat7 hx0
            have env3 := HENV.out w3 HC3.out
            have b0 : w3.cell? ⟨z, 0, none⟩ = some (.int .u64 (c.d : Int)) := by simp [World.cell?, env3.site]
            have b1 : w3.cell? ⟨z, 1, none⟩ = some (.int .i64 (c.th : Int)) := by simp [World.cell?, env3.site]
            have b2 : w3.cell? ⟨z, 2, none⟩ = some (.int .i64 c.nn) := by simp [World.cell?, env3.site]
            have b3 : w3.cell? ⟨z, 3, none⟩ = some (.int .i64 c.kp) := by simp [World.cell?, env3.site]
            have b4 : w3.cell? ⟨z, 4, none⟩ = some (.int .u64 (c.sd : Int)) := by simp [World.cell?, env3.site]
            have b5 : w3.cell? ⟨z + 1, 0, none⟩ = some (.int .u64 (c.b : Int)) := by simp [World.cell?, env3.table]
            have b6 : w3.cell? ⟨z + 1, 1, none⟩ = some (.int .i64 c.lg) := by simp [World.cell?, env3.table]
            have KE := Lib.hid (rexam_any (k2 + 1) c S5 x sl HT3.out HX.out (HA7.out).now (HA7.out).over HXX.out HWF.out HM.out HOK.out.th HS5.out.2)
            clear env3
            go_wp2_with fail
            with_reducible refine KE.out.mono ?_
            rintro e w4 ⟨f, m, rfl, hfw, hts4, hbeh, hc4⟩
            have HFW := Lib.hid hfw
            have HT4 := Lib.hid hts4
            have HBEH := Lib.hid hbeh
            have HC4 := Lib.hid (Tn.trans HC3.out hc4)
            have env4 := HENV.out w4 (Tn.trans HC3.out hc4)
            have HD : Hid (w4.heap[z + 1 + 1]? = some (.cells fz4 46 (0, 0))) := Lib.hid env4.found
            have HDD : Hid (∀ (o : Obj) (a b d v : Value), ((set4 w4 (z + 1 + 1) a b d v).alloc o).heap[z + 1 + 1]? = some (.cells #[a, b, d, v] 46 (0, 0))) := Lib.hid (fun o a b d v => by
              have h4 := set4_at (fc := (.int .i64 0, .int .i64 0, .int .u64 0, .string ⟨#[]⟩)) HD.out a b d v
              exact (((Below.refl _ _).alloc (Nat.le_refl _) o).block (z + 1 + 1) (Array.getElem?_eq_some_iff.1 h4).1).trans h4)
            have hzz : z + 1 + 1 < w4.heap.size := (Array.getElem?_eq_some_iff.1 env4.found).1
            have d0 : w4.cell? ⟨z + 1 + 1, 0, none⟩ = some (.int .i64 0) := by simp [World.cell?, env4.found]
            have d1 : w4.cell? ⟨z + 1 + 1, 1, none⟩ = some (.int .i64 0) := by simp [World.cell?, env4.found]
            have d2 : w4.cell? ⟨z + 1 + 1, 2, none⟩ = some (.int .u64 0) := by simp [World.cell?, env4.found]
            have d3 : w4.cell? ⟨z + 1 + 1, 3, none⟩ = some (.string ⟨#[]⟩) := by simp [World.cell?, env4.found]
            have f20 : w4.frozen? ⟨z + 1 + 1, 0, none⟩ = false := by simp [World.frozen?, env4.found]
            have f21 : w4.frozen? ⟨z + 1 + 1, 1, none⟩ = false := by simp [World.frozen?, env4.found]
            have f22 : w4.frozen? ⟨z + 1 + 1, 2, none⟩ = false := by simp [World.frozen?, env4.found]
            have f23 : w4.frozen? ⟨z + 1 + 1, 3, none⟩ = false := by simp [World.frozen?, env4.found]
            obtain ⟨y, hy⟩ : ∃ y, y = z + 1 + 1 := ⟨_, rfl⟩
            have HY := Lib.hid hy
            rw [← hy] at HD HDD hzz d0 d1 d2 d3 f20 f21 f22 f23 ⊢
            have hyz : (y == w4.heap.size) = false := by simp; omega
            have hyz2 : (w4.heap.size == y) = false := by simp; omega
            clear hfw hts4 hbeh hc4 env4 KE b0 b1 b2 b3 b4 b5 b6 hy hzz
            have hwnp : wrap64 ((np : Int) + 1) = (np : Int) + 1 := by rw [wrap64_small (by omega) (by omega)]
            by_cases hf : f.k = 0
            · have ef : ((f.k : Int) != 0) = false := by simp; omega
              have hT : ∃ T' : Sk.S, T'.chk = S5.chk ∧ T'.w = S5.w ∧ T'.i = np + 1 ∧ T'.n = n ∧ T'.g = gn ∧ At c chk GS ((k2 + 1) + m) (Sk.goOn c T') := by
                by_cases hk : (k2 + 1) + m ≤ GS.length
                · obtain ⟨-, s', ⟨q1, q2, q3, q4, q5⟩, q6⟩ := (HBEH.out.1 hk).1 hf
                  exact ⟨{ s' with i := s'.i + 1 }, q5, q1, by show s'.i + 1 = np + 1; rw [q2, HSI.out.1], by show s'.n = n; rw [q3, HSI.out.2.1], by show s'.g = gn; rw [q4, HSI.out.2.2], ⟨fun _ => q6, HBEH.out.2⟩⟩
                · exact ⟨{ S5 with i := np + 1 }, rfl, rfl, rfl, HSI.out.2.1, HSI.out.2.2, ⟨fun h => absurd h hk, HBEH.out.2⟩⟩
              obtain ⟨T', q1, q2, q3, q4, q5, q6⟩ := hT
              have HQ := Lib.hid (show _ ∧ _ ∧ _ ∧ _ ∧ _ ∧ _ from ⟨q1, q2, q3, q4, q5, q6⟩)
              have HF := Lib.hid hf
              clear q1 q2 q3 q4 q5 q6 hf
              have hyy := HY.out
              clear HY
              subst hyy
              go_wp2
              go_roundw
              case rel =>
                obtain ⟨q1, q2, q3, q4, q5, q6⟩ := HQ.out
                have hb := (Below.refl _ w4).alloc (Nat.le_refl _) (.cells #[.int .i64 (f.k : Int), .int .i64 f.c, .int .u64 (f.w : Int), .string ⟨f.v.toArray⟩] 46)
                refine ⟨(k2 + 1) + m, T', by rw [q1, HSW.out.1], by rw [q2, HSW.out.2.1], by rw [q3]; go_num, by rw [q2, HSW.out.2.1]; exact HSW.out.2.2, by rw [q3]; have := HKK.out.2.2.2.2.2.2 (by omega); omega, q4, q5, q6, HT4.out.below hb, HC4.out.trans (Tn.of_below hb)⟩
              case measure =>
                have hb := (Below.refl _ w4).alloc (Nat.le_refl _) (.cells #[.int .i64 (f.k : Int), .int .i64 f.c, .int .u64 (f.w : Int), .string ⟨f.v.toArray⟩] 46)
                have h1 := tat_eq (HT4.out.below hb)
                have h2 := tat_eq HTT.out
                have := HKK.out.2.2.2.2.2.1
                rw [h1, h2]
                split <;> split <;> omega
            · have ef : ((f.k : Int) != 0) = true := by simp; omega
              have HDA : Hid (∀ o, (w4.alloc o).heap[y]? = some (.cells fz4 46 (0, 0))) := Lib.hid (fun o => ((Below.refl _ w4).alloc (Nat.le_refl _) o).block y (Array.getElem?_eq_some_iff.1 HD.out).1 |>.trans HD.out)
              have g0 : ∀ o, (w4.alloc o).cell? ⟨y, 0, none⟩ = some (.int .i64 0) := fun o => by simp [World.cell?, HDA.out o]
              have fk0 : ∀ o, (w4.alloc o).frozen? ⟨y, 0, none⟩ = false := fun o => by simp [World.frozen?, HDA.out o]
              have g1 : ∀ o, (w4.alloc o).cell? ⟨y, 1, none⟩ = some (.int .i64 0) := fun o => by simp [World.cell?, HDA.out o]
              have fk1 : ∀ o, (w4.alloc o).frozen? ⟨y, 1, none⟩ = false := fun o => by simp [World.frozen?, HDA.out o]
              have g2 : ∀ o, (w4.alloc o).cell? ⟨y, 2, none⟩ = some (.int .u64 0) := fun o => by simp [World.cell?, HDA.out o]
              have fk2 : ∀ o, (w4.alloc o).frozen? ⟨y, 2, none⟩ = false := fun o => by simp [World.frozen?, HDA.out o]
              have g3 : ∀ o, (w4.alloc o).cell? ⟨y, 3, none⟩ = some (.string ⟨#[]⟩) := fun o => by simp [World.cell?, HDA.out o]
              have fk3 : ∀ o, (w4.alloc o).frozen? ⟨y, 3, none⟩ = false := fun o => by simp [World.frozen?, HDA.out o]
              have HF := Lib.hid hf
              clear hf
              go_wp2
              have HDE : Hid (∀ (o : Obj) (a b d v : Value), (set4 (w4.alloc o) y a b d v).heap[y]? = some (.cells #[a, b, d, v] 46 (0, 0))) := Lib.hid (fun o a b d v => set4_at (fc := (.int .i64 0, .int .i64 0, .int .u64 0, .string ⟨#[]⟩)) (HDA.out o) a b d v)
              refine bodyPost_ret (v := fv f) (by simp [results, Tryz.results12, go_sem, World.cell?, HDE.out]) rfl ?_
              refine ⟨f, (k2 + 1) + m, rfl, HFW.out, ts_set4 (HT4.out.below ((Below.refl _ _).alloc (Nat.le_refl _) _)) (by have := HT.out; have := HY.out; omega) _ _ _ _, fun hk => (HBEH.out.1 hk).2 HF.out, HBEH.out.2, ?_⟩
              exact ((HC1.out.trans HC4.out).trans (Tn.of_below ((Below.refl _ _).alloc (Nat.le_refl _) _))).then_below (set4_below _ (by have := HZ.out; have := HY.out; omega) _ _ _ _)
    · -- no group is left
      obtain ⟨S', hS'⟩ := toG_out (c := c) (S := S) (n := n) (by omega)
      rw [hS', if_pos HLL.out] at hat
      have env := HENV.out wr hch
      have d0 : wr.cell? ⟨z + 1 + 1, 0, none⟩ = some (.int .i64 0) := by simp [World.cell?, env.found]
      have d1 : wr.cell? ⟨z + 1 + 1, 1, none⟩ = some (.int .i64 0) := by simp [World.cell?, env.found]
      have d2 : wr.cell? ⟨z + 1 + 1, 2, none⟩ = some (.int .u64 0) := by simp [World.cell?, env.found]
      have d3 : wr.cell? ⟨z + 1 + 1, 3, none⟩ = some (.string ⟨#[]⟩) := by simp [World.cell?, env.found]
      have f20 : wr.frozen? ⟨z + 1 + 1, 0, none⟩ = false := by simp [World.frozen?, env.found]
      have f21 : wr.frozen? ⟨z + 1 + 1, 1, none⟩ = false := by simp [World.frozen?, env.found]
      have f22 : wr.frozen? ⟨z + 1 + 1, 2, none⟩ = false := by simp [World.frozen?, env.found]
      have f23 : wr.frozen? ⟨z + 1 + 1, 3, none⟩ = false := by simp [World.frozen?, env.found]
      have hltI : ¬ (n : Int) < (Tb.grp c.lg : Int) := by omega
      have HA := Lib.hid hat
      have HTT := Lib.hid hts
      have HCH := Lib.hid hch
      clear hat hts hch env hn hk hgl hlt
      go_wp2
      refine bodyPost_ret (v := fv ⟨1, 0, 0, []⟩) (by simp [results, Tryz.results12, go_sem, d0, d1, d2, d3]) rfl ?_
      exact sdone_of (ts_set4 HTT.out (by have := HT.out; omega) _ _ _ _) (by decide) HA.out ((HC1.out.trans HCH.out).then_below (set4_below _ (by have := HZ.out; omega) _ _ _ _))
end Go.Proofs.YtknefjigdlbacaaGreatDoor
