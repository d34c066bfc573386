/-
  The walk of the document's Examine on a tape. By an AI agent.
-/
import Derived.Test.YtknefjigdlbacaaGreatDoorSkKAE
import Derived.Test.YtknefjigdlbacaaGreatDoorSkKAT
import Derived.Test.YtknefjigdlbacaaGreatDoorSkShield
import Derived.Test.YtknefjigdlbacaaGreatDoorSkKBH
set_option linter.unusedSimpArgs false
set_option linter.unusedVariables false
namespace Go.Proofs.YtknefjigdlbacaaGreatDoor
open Go.RowKit Go.Maps
open Ac (A)
/-- The state behind Examine, where the tape goes on to the place k. -/
def Beh (c : Sk.C) (chk : Bool) (GS : List Nat) (s : Sk.S) (f : Sk.F) (k : Nat) : Prop :=
  (k ≤ GS.length → (f.k = 0 → f = Sk.F.z ∧ ∃ s', Sk.Alike s' s ∧ Sk.run c chk (GS.take k) = Sk.goOn c { s' with i := s'.i + 1 }) ∧ (f.k ≠ 0 → ∃ s', Sk.run c chk (GS.take k) = Sk.fin s' f)) ∧ (GS.length < k → (Sk.run c chk GS).p ≠ 0)
def Exd (B t k0 : Nat) (ad : Option Addr) (GS : List Nat) (cc : Nat) (X : A) (c : Sk.C) (chk : Bool) (s : Sk.S) (w : World) (e : Ending) (w' : World) : Prop :=
  ∃ f m, e = .returned (fv f) ∧ f.w < 18446744073709551616 ∧ Ts B w' t ad GS cc (k0 + m) X ∧ Beh c chk GS s f (k0 + m) ∧ Chg t w w'
/-! ### what the states are -/
theorem exam_five (c : Sk.C) (s : Sk.S) : Sk.aft c (Sk.exam s 5) = Sk.fin { s with p := 7, sh := Sh.new 5 } ⟨4, 0, 0, []⟩ := by
  have h : Sh.new 5 = ⟨3, 5⟩ := Sh.new_no (by decide)
  unfold Sk.exam Sk.opn
  simp only [h]
  rw [if_pos trivial, if_neg (by decide), if_pos trivial]
  rfl
theorem opn_five (c : Sk.C) (s : Sk.S) : Sk.aft c (Sk.opn { s with p := 7, sh := ⟨3, 5⟩ }) = Sk.fin { s with p := 7, sh := ⟨3, 5⟩ } ⟨4, 0, 0, []⟩ := by
  unfold Sk.opn
  simp only
  rw [if_pos trivial, if_neg (by decide), if_pos trivial]
  rfl
theorem opn_box (c : Sk.C) (s : Sk.S) {u : Nat} (h : Tg.hd (u : Int) = false) (h5 : u ≠ 5) : ∃ s', Sk.Alike s' s ∧ Sk.aft c (Sk.opn { s with p := 7, sh := ⟨3, u⟩ }) = Sk.goOn c { s' with i := s'.i + 1 } := by
  refine ⟨{ s with p := 7, sh := ⟨3, u⟩ }, ⟨rfl, rfl, rfl, rfl, rfl⟩, ?_⟩
  unfold Sk.opn
  simp only
  rw [if_pos trivial, h, if_neg (by simp), if_neg h5]
  rfl
theorem opn_hd (c : Sk.C) (s : Sk.S) {u : Nat} (h : Tg.hd (u : Int) = true) : Sk.aft c (Sk.opn { s with p := 7, sh := ⟨3, u⟩ }) = { s with p := 8, sh := ⟨3, u⟩, x := u, rs := [] } := by
  unfold Sk.opn
  simp only
  rw [if_pos trivial, h, if_pos rfl]
  rfl
theorem new_not {x : Nat} (h : Tg.hd (x : Int) = false) : Sh.new x = ⟨3, x⟩ := Sh.new_no (by unfold Sh.fr Tg.fr; rw [h]; rfl)
theorem run_more {c : Sk.C} {chk : Bool} {GS : List Nat} {k : Nat} {s : Sk.S} (h : Sk.runs c (Sk.run c chk (GS.take k)) (GS.drop k) = s) (hp : s.p ≠ 0) : (Sk.run c chk GS).p ≠ 0 := by
  rw [Sk.run_rest k, h]; exact hp
set_option maxRecDepth 100000 in
set_option maxHeartbeats 4000000 in
theorem rexam_any {B : Nat} {w : World} {t cc : Nat} {ad : Option Addr} {GS : List Nat} {X : A} {chk : Bool} (k0 : Nat) (c : Sk.C) (s : Sk.S) (x slot : Nat) (h : Ts B w t ad GS cc k0 X)
    (hX : (Sk.run c chk GS).p ≠ 0 → X = Sk.act c (Sk.run c chk GS)) (hs : k0 ≤ GS.length → Sk.run c chk (GS.take k0) = Sk.aft c (Sk.exam s x)) (hov : GS.length < k0 → (Sk.run c chk GS).p ≠ 0)
    (hx : x < 18446744073709551616) (hw : ∀ x ∈ GS, x < 18446744073709551616) (hm : GS.length ≤ 1000) (hth : c.th ≤ 63) (hslot : Sk.scell c s = (slot : Int)) :
    Calls Tryz.prog 56 #[.pointer (some ⟨t, 0, none⟩), .agg (siteC (c.d : Int) (c.th : Int) c.nn c.kp (c.sd : Int)), .agg #[.int .u64 (c.b : Int), .int .i64 c.lg], .string ⟨c.key.toArray⟩, .int .i64 (slot : Int), .int .u64 (x : Int)] w (Exd B t k0 ad GS cc X c chk s w) := by
  obtain ⟨z, hz⟩ : ∃ z, z = w.heap.size := ⟨_, rfl⟩
  have htz : t < z := by rw [hz]; exact h.own.lt
  obtain ⟨W, hW⟩ : ∃ W, W = ((w.alloc (.cells (siteC (c.d : Int) (c.th : Int) c.nn c.kp (c.sd : Int)) 26)).alloc (.cells #[.int .u64 (c.b : Int), .int .i64 c.lg] 24)).alloc (.cells #[.int .i64 0, .int .i64 0, .int .u64 0, .string ⟨#[]⟩] 46) := ⟨_, rfl⟩
  have hbW : Below w.heap.size w W := by
    rw [hW]
    exact (((Below.refl _ w).alloc (Nat.le_refl _) _).alloc (by simp only [World.size_alloc]; omega) _).alloc (by simp only [World.size_alloc]; omega) _
  have o0 : W.heap[z]? = some (.cells (siteC (c.d : Int) (c.th : Int) c.nn c.kp (c.sd : Int)) 26 (0, 0)) := by
    rw [hW, hz]
    have h1 := heap_alloc_new w (.cells (siteC (c.d : Int) (c.th : Int) c.nn c.kp (c.sd : Int)) 26)
    exact ((((Below.refl _ _).alloc (Nat.le_refl _) _).alloc (by simp only [World.size_alloc]; omega) _).block w.heap.size (by simp only [World.size_alloc]; omega)).trans h1
  have o1 : W.heap[z + 1]? = some (.cells #[.int .u64 (c.b : Int), .int .i64 c.lg] 24 (0, 0)) := by
    rw [hW, hz]
    have h1 := heap_alloc_new (w.alloc (.cells (siteC (c.d : Int) (c.th : Int) c.nn c.kp (c.sd : Int)) 26)) (.cells #[.int .u64 (c.b : Int), .int .i64 c.lg] 24)
    rw [World.size_alloc] at h1
    exact (((Below.refl _ _).alloc (Nat.le_refl _) _).block (w.heap.size + 1) (by simp only [World.size_alloc]; omega)).trans h1
  have o2 : W.heap[z + 1 + 1]? = some (.cells #[.int .i64 0, .int .i64 0, .int .u64 0, .string ⟨#[]⟩] 46 (0, 0)) := by
    rw [hW, hz]
    have h1 := heap_alloc_new ((w.alloc (.cells (siteC (c.d : Int) (c.th : Int) c.nn c.kp (c.sd : Int)) 26)).alloc (.cells #[.int .u64 (c.b : Int), .int .i64 c.lg] 24)) (.cells #[.int .i64 0, .int .i64 0, .int .u64 0, .string ⟨#[]⟩] 46)
    rw [World.size_alloc, World.size_alloc] at h1
    exact h1
  have HA0 := Lib.hid (show Aside (fun k => k = t) W z _ from ⟨o0, fun e => by have e : z = t := e; omega⟩)
  have HA1 := Lib.hid (show Aside (fun k => k = t) W (z + 1) _ from ⟨o1, fun e => by have e : z + 1 = t := e; omega⟩)
  have HA2 := Lib.hid (show Aside (fun k => k = t) W (z + 1 + 1) _ from ⟨o2, fun e => by have e : z + 1 + 1 = t := e; omega⟩)
  have HB := Lib.hid hbW
  have HTS := Lib.hid (h.below hbW)
  have HT := Lib.hid htz
  have HZ := Lib.hid hz
  have HX := Lib.hid hX
  have HS := Lib.hid hs
  have HO := Lib.hid hov
  have KH := Lib.hid (fun (u : Nat) (V : World) (hu : u < 18446744073709551616) => (rholds_any (u : Int) V (by omega) (by omega)))
  -- the result cell: what is stored there, and what is handed back
  have HR : Hid (∀ (V : World) (a b d v : Value), Aside (fun k => k = t) V (z + 1 + 1) (.cells #[.int .i64 0, .int .i64 0, .int .u64 0, .string ⟨#[]⟩] 46 (0, 0)) → Chg t w V → Chg t w ((((V.setCell ⟨z + 1 + 1, 0, none⟩ a).setCell ⟨z + 1 + 1, 1, none⟩ b).setCell ⟨z + 1 + 1, 2, none⟩ d).setCell ⟨z + 1 + 1, 3, none⟩ v) ∧ ∀ k, Ts B V t ad GS cc k X → Ts B ((((V.setCell ⟨z + 1 + 1, 0, none⟩ a).setCell ⟨z + 1 + 1, 1, none⟩ b).setCell ⟨z + 1 + 1, 2, none⟩ d).setCell ⟨z + 1 + 1, 3, none⟩ v) t ad GS cc k X) := Lib.hid (fun V a b d v _ hc => by
    have hb : ∀ n, n ≤ z + 1 + 1 → Below n V ((((V.setCell ⟨z + 1 + 1, 0, none⟩ a).setCell ⟨z + 1 + 1, 1, none⟩ b).setCell ⟨z + 1 + 1, 2, none⟩ d).setCell ⟨z + 1 + 1, 3, none⟩ v) := fun n hn => ((((Below.refl n V).setCell (p := ⟨z + 1 + 1, 0, none⟩) hn _).setCell (p := ⟨z + 1 + 1, 1, none⟩) hn _).setCell (p := ⟨z + 1 + 1, 2, none⟩) hn _).setCell (p := ⟨z + 1 + 1, 3, none⟩) hn _
    refine ⟨hc.then_below (hb _ (by omega)), fun k hk => ⟨hk.tB, hk.own.keep ?_, hk.sl.below (hb B (by have := hk.tB; omega))⟩⟩
    exact (hb (t + 1) (by omega)).block t (by omega))
  have HF : Hid (∀ o, Ts B (((w.alloc (.cells (siteC (c.d : Int) (c.th : Int) c.nn c.kp (c.sd : Int)) 26)).alloc (.cells #[.int .u64 (c.b : Int), .int .i64 c.lg] 24)).alloc o) t ad GS cc k0 X ∧ Chg t w (((w.alloc (.cells (siteC (c.d : Int) (c.th : Int) c.nn c.kp (c.sd : Int)) 26)).alloc (.cells #[.int .u64 (c.b : Int), .int .i64 c.lg] 24)).alloc o)) := Lib.hid (fun o => by
    have hb := (((Below.refl _ w).alloc (Nat.le_refl _) (.cells (siteC (c.d : Int) (c.th : Int) c.nn c.kp (c.sd : Int)) 26)).alloc (by simp only [World.size_alloc]; omega) (.cells #[.int .u64 (c.b : Int), .int .i64 c.lg] 24)).alloc (by simp only [World.size_alloc]; omega) o
    exact ⟨h.below hb, Tn.of_below hb⟩)
  have HW := Lib.hid hW
  have HWX := Lib.hid hw
  have HM := Lib.hid hm
  have HH := Lib.hid hth
  have HSL := Lib.hid hslot
  have HXX := Lib.hid hx
  clear h hz htz hbW o0 o1 o2 hX hs hov hW hw hm hth hslot hx
  by_cases h5 : x = 5
  · subst h5
    have HBE : Hid (Beh c chk GS s ⟨4, 0, 0, []⟩ k0) := Lib.hid ⟨fun hk => ⟨fun e => (by cases e), fun _ => ⟨_, by rw [HS.out hk, exam_five]⟩⟩, HO.out⟩
    go_enter Tryz.func56, Tryz.ntmps56
    go_wp2
    refine bodyPost_ret (v := fv ⟨4, 0, 0, []⟩) (by simp [results, Tryz.results56, go_sem]) rfl ?_
    exact ⟨⟨4, 0, 0, []⟩, 0, rfl, by decide, (HF.out _).1, HBE.out, (HF.out _).2⟩
  have e5 : ((x : Int) != 5) = true := by simp; omega
  have e5' : ((x : Int) == 5) = false := by simp; omega
  have H5 := Lib.hid h5
  clear h5 HF
  cases hd : Tg.hd (x : Int) with
  | false =>
    have K1 := Lib.hid (fun V => KH.out x V HXX.out)
    rw [hd] at K1
    have HBE : Hid (Beh c chk GS s Sk.F.z k0) := Lib.hid ⟨fun hk => ⟨fun _ => ⟨rfl, by
      rw [HS.out hk]
      unfold Sk.exam
      rw [new_not hd]
      exact opn_box c s hd H5.out⟩, fun e => absurd rfl e⟩, HO.out⟩
    clear hd
    have d0 := HA2.out.cell 0 rfl
    have d1 := HA2.out.cell 1 rfl
    have d2 := HA2.out.cell 2 rfl
    have d3 := HA2.out.cell 3 rfl
    have f2 : ∀ i, W.frozen? ⟨z + 1 + 1, i, none⟩ = false := fun i => by simp [World.frozen?, HA2.out.at']
    have f20 := f2 0
    have f21 := f2 1
    have f22 := f2 2
    have f23 := f2 3
    clear f2
    go_enter Tryz.func56, Tryz.ntmps56
    go_wp2_with fail
    rw [show ((w.alloc (.cells (siteC (c.d : Int) (c.th : Int) c.nn c.kp (c.sd : Int)) 26)).alloc (.cells #[.int .u64 (c.b : Int), .int .i64 c.lg] 24)).alloc (.cells #[.int .i64 0, .int .i64 0, .int .u64 0, .string ⟨#[]⟩] 46) = W from HW.out.symm, ← HZ.out]
    with_reducible refine (K1.out W).mono ?_
    rintro e w1 ⟨rfl, rfl⟩
    go_wp2_with fail
    with_reducible refine (K1.out W).mono ?_
    rintro e w1 ⟨rfl, rfl⟩
    have HRR := Lib.hid (HR.out W (.int .i64 0) (.int .i64 0) (.int .u64 0) (.string ⟨#[]⟩) HA2.out (show Chg t w W from Tn.of_below HB.out))
    go_wp2
    refine bodyPost_ret (v := fv Sk.F.z) (by simp [results, Tryz.results56, go_sem, d0, d1, d2, d3]) rfl ?_
    exact ⟨Sk.F.z, 0, rfl, by decide, HRR.out.2 _ HTS.out, HBE.out, HRR.out.1⟩
  | true =>
    have HHD := Lib.hid hd
    obtain ⟨gs, hgs⟩ : ∃ gs, gs = GS.drop k0 := ⟨_, rfl⟩
    have KS := rdshield_from k0 c.d c.th c.nn c.kp (c.sd : Int) c.b slot x HH.out hgs HTS.out (fun hk hmo hal => by
      have e := Sk.sh_over (c := c) (s := s) hal
      have e2 : Sk.run c chk GS = { s with p := 7, sh := Sh.run x gs } := by rw [Sk.run_rest k0, HS.out hk, ← hgs, e]
      rw [HX.out (by rw [e2]; simp), e2]
      unfold Sk.act
      simp only [Nat.reduceEqDiff, if_false, if_true]
      rw [← HSL.out]
      rfl) HXX.out HWX.out HM.out
    have KS := Lib.hid KS
    have K1 := Lib.hid (fun V => KH.out x V HXX.out)
    rw [hd] at K1
    have b0 := HA0.out.cell 0 rfl
    have b1 := HA0.out.cell 1 rfl
    have b2 := HA0.out.cell 2 rfl
    have b3 := HA0.out.cell 3 rfl
    have b4 := HA0.out.cell 4 rfl
    have b5 := HA1.out.cell 0 rfl
    have HGS := Lib.hid hgs
    clear hd hgs
    go_enter Tryz.func56, Tryz.ntmps56
    go_wp2_with fail
    rw [show ((w.alloc (.cells (siteC (c.d : Int) (c.th : Int) c.nn c.kp (c.sd : Int)) 26)).alloc (.cells #[.int .u64 (c.b : Int), .int .i64 c.lg] 24)).alloc (.cells #[.int .i64 0, .int .i64 0, .int .u64 0, .string ⟨#[]⟩] 46) = W from HW.out.symm, ← HZ.out]
    with_reducible refine (K1.out W).mono ?_
    rintro e w1 ⟨rfl, rfl⟩
    go_wp2_with fail
    with_reducible refine KS.out.mono ?_
    rintro e w2 ⟨u, m1, rfl, hu, hts, hr1, hr2, hc2⟩
    have HU := Lib.hid hu
    have HT2 := Lib.hid hts
    have HR1 := Lib.hid hr1
    have HR2 := Lib.hid hr2
    have HC2 := Lib.hid ((show Chg t w W from Tn.of_below HB.out).trans hc2)
    have HA22 := Lib.hid (HA2.out.tn hc2)
    clear hu hts hr1 hr2 hc2 KS K1 b0 b1 b2 b3 b4 b5
    -- the state at the end of the shield
    have HST : Hid (k0 + m1 ≤ GS.length → Sk.run c chk (GS.take (k0 + m1)) = Sk.aft c (Sk.opn { s with p := 7, sh := ⟨3, u⟩ })) := Lib.hid (fun hk => by
      obtain ⟨q1, q2⟩ := HR1.out hk
      rw [Sk.run_take_add, HS.out (by omega), ← HGS.out]
      exact Sk.sh_end (by rw [HGS.out, List.length_drop]; omega) q1 q2)
    have HOV : Hid (GS.length < k0 + m1 → (Sk.run c chk GS).p ≠ 0) := Lib.hid (fun hk => by
      by_cases hk0 : k0 ≤ GS.length
      · have q := HR2.out hk hk0
        rw [Sk.run_rest k0, HS.out hk0, ← HGS.out, Sk.sh_over q]
        simp
      · exact HO.out (by omega))
    clear HR1 HR2
    have d0 := HA22.out.cell 0 rfl
    have d1 := HA22.out.cell 1 rfl
    have d2 := HA22.out.cell 2 rfl
    have d3 := HA22.out.cell 3 rfl
    have f2 : ∀ i, w2.frozen? ⟨z + 1 + 1, i, none⟩ = false := fun i => by simp [World.frozen?, HA22.out.at']
    have f20 := f2 0
    have f21 := f2 1
    have f22 := f2 2
    have f23 := f2 3
    clear f2 e5 e5'
    by_cases hu5 : u = 5
    · subst hu5
      have HBE : Hid (Beh c chk GS s ⟨4, 0, 0, []⟩ (k0 + m1)) := Lib.hid ⟨fun hk => ⟨fun e => (by cases e), fun _ => ⟨_, by rw [HST.out hk, opn_five]⟩⟩, HOV.out⟩
      have HRR := Lib.hid (HR.out w2 (.int .i64 4) (.int .i64 0) (.int .u64 0) (.string ⟨#[]⟩) HA22.out HC2.out)
      go_wp2
      refine bodyPost_ret (v := fv ⟨4, 0, 0, []⟩) (by simp [results, Tryz.results56, go_sem, d0, d1, d2, d3]) rfl ?_
      exact ⟨⟨4, 0, 0, []⟩, m1, rfl, by decide, HRR.out.2 _ HT2.out, HBE.out, HRR.out.1⟩
    have e6 : ((u : Int) == 5) = false := by simp; omega
    have HU5 := Lib.hid hu5
    have K2 := Lib.hid (fun V => KH.out u V HU.out)
    clear hu5
    cases hhu : Tg.hd (u : Int) with
    | false =>
      rw [hhu] at K2
      have HBE : Hid (Beh c chk GS s Sk.F.z (k0 + m1)) := Lib.hid ⟨fun hk => ⟨fun _ => ⟨rfl, by rw [HST.out hk]; exact opn_box c s hhu HU5.out⟩, fun e => absurd rfl e⟩, HOV.out⟩
      have HRR := Lib.hid (HR.out w2 (.int .i64 0) (.int .i64 0) (.int .u64 0) (.string ⟨#[]⟩) HA22.out HC2.out)
      clear hhu
      go_wp2_with fail
      with_reducible refine (K2.out _).mono ?_
      rintro e w3 ⟨rfl, rfl⟩
      go_wp2
      refine bodyPost_ret (v := fv Sk.F.z) (by simp [results, Tryz.results56, go_sem, d0, d1, d2, d3]) rfl ?_
      exact ⟨Sk.F.z, m1, rfl, by decide, HRR.out.2 _ HT2.out, HBE.out, HRR.out.1⟩
    | true =>
      rw [hhu] at K2
      have KB := Lib.hid (fun V => rblockn u V HU.out)
      have KF := Lib.hid (fun V => rfreshn u V HU.out)
      obtain ⟨gs2, hgs2⟩ : ∃ gs, gs = GS.drop (k0 + m1) := ⟨_, rfl⟩
      have hst2 : k0 + m1 ≤ GS.length → Sk.run c chk (GS.take (k0 + m1)) = { s with p := 8, sh := ⟨3, u⟩, x := u, rs := [] } := fun hk => by rw [HST.out hk, opn_hd c s hhu]
      have hov2 : k0 + m1 ≤ GS.length → gs2.length < Rd.sz gs2 → Sk.run c chk GS = { s with p := 8, sh := ⟨3, u⟩, x := u, rs := gs2 } := fun hk hl => by
        rw [Sk.run_rest (k0 + m1), hst2 hk, ← hgs2, Sk.rd_few rfl gs2 (by simpa using hl)]
        rfl
      have KR := rdread_from (k0 + m1) (u / 8) hgs2 HT2.out (fun hk hl => by
        have e2 := hov2 hk hl
        rw [HX.out (by rw [e2]; simp), e2]
        show Rd.act (u / 8) gs2 gs2.length = _
        rw [Rd.act_yes hl]) HWX.out HM.out
      rw [show ((u / 8 : Nat) : Int) = (u : Int) / 8 by omega] at KR KB
      have KR := Lib.hid KR
      have HS2 := Lib.hid hst2
      have HOV2 := Lib.hid hov2
      have HG2 := Lib.hid hgs2
      clear hhu hst2 hov2 hgs2
      go_wp2_with fail
      with_reducible refine (K2.out _).mono ?_
      rintro e w3 ⟨rfl, rfl⟩
      go_wp2_with fail
      with_reducible refine (KB.out _).mono ?_
      rintro e w3 ⟨rfl, rfl⟩
      go_wp2_with fail
      with_reducible refine KR.out.mono ?_
      rintro e w3 ⟨k, v, m2, rfl, hkv, hts, hiff, hc3⟩
      have HKV := Lib.hid hkv
      have HT3 : Hid (Ts B w3 t ad GS cc (k0 + (m1 + m2)) X) := Lib.hid (by rw [← Nat.add_assoc]; exact hts)
      have HIF := Lib.hid hiff
      have HC3 := Lib.hid (HC2.out.trans hc3)
      have HA3 := Lib.hid (HA22.out.tn hc3)
      clear hkv hts hiff hc3 KR d0 d1 d2 d3 f20 f21 f22 f23 K2 KB
      -- the state behind the reader
      have HOV3 : Hid (GS.length < k0 + (m1 + m2) → (Sk.run c chk GS).p ≠ 0) := Lib.hid (fun hk => by
        by_cases hk0 : k0 + m1 ≤ GS.length
        · rw [HOV2.out hk0 (HIF.out.1 (by omega))]; simp
        · exact HOV.out (by omega))
      have HKK : Hid (k0 + (m1 + m2) ≤ GS.length → k = Rd.key gs2 ∧ v = Rd.val gs2 ∧ Sk.run c chk (GS.take (k0 + (m1 + m2))) = Sk.aft c (if Rd.key gs2 = c.key then (if Sh.fr u then (Sk.fin { s with p := 8, sh := ⟨3, u⟩, x := u, rs := gs2.take (Rd.sz gs2) } ⟨2, Sk.scell c s, u, Rd.val gs2⟩, false) else (Sk.fin { s with p := 8, sh := ⟨3, u⟩, x := u, rs := gs2.take (Rd.sz gs2) } ⟨4, 0, 0, []⟩, false)) else ({ s with p := 8, sh := ⟨3, u⟩, x := u, rs := gs2.take (Rd.sz gs2) }, true))) := Lib.hid (fun hk => by
        have hl : Rd.sz gs2 ≤ gs2.length := by
          apply Decidable.byContradiction
          intro hn
          have := HIF.out.2 (by omega)
          omega
        obtain ⟨q1, q2, q3⟩ := HKV.out hl
        refine ⟨q1, q2, ?_⟩
        rw [← Nat.add_assoc, Sk.run_take_add, HS2.out (by omega), ← HG2.out, q3, Sk.rd_end rfl rfl hl]
        exact congrArg (Sk.aft c) (Sk.cmp_full (c := c) (s := { s with p := 8, sh := ⟨3, u⟩, x := u, rs := [] }) hl))
      clear HOV HOV2 HS2 HG2 HKV HIF HST
      have HR4 : Hid (∀ (o : Obj) (a b d v : Value), Ts B (((((w3.setCell ⟨z + 1 + 1, 0, none⟩ a).setCell ⟨z + 1 + 1, 1, none⟩ b).setCell ⟨z + 1 + 1, 2, none⟩ d).setCell ⟨z + 1 + 1, 3, none⟩ v).alloc o) t ad GS cc (k0 + (m1 + m2)) X ∧ Chg t w (((((w3.setCell ⟨z + 1 + 1, 0, none⟩ a).setCell ⟨z + 1 + 1, 1, none⟩ b).setCell ⟨z + 1 + 1, 2, none⟩ d).setCell ⟨z + 1 + 1, 3, none⟩ v).alloc o)) := Lib.hid (fun o a b d v => by
        have q := HR.out w3 a b d v HA3.out HC3.out
        have hb := (Below.refl _ ((((w3.setCell ⟨z + 1 + 1, 0, none⟩ a).setCell ⟨z + 1 + 1, 1, none⟩ b).setCell ⟨z + 1 + 1, 2, none⟩ d).setCell ⟨z + 1 + 1, 3, none⟩ v)).alloc (Nat.le_refl _) o
        exact ⟨(q.2 _ HT3.out).below hb, q.1.trans (Tn.of_below hb)⟩)
      have HD : Hid (w3.heap[z + 1 + 1]? = some (.cells #[.int .i64 0, .int .i64 0, .int .u64 0, .string ⟨#[]⟩] 46 (0, 0))) := Lib.hid HA3.out.at'
      have HDD : Hid (∀ (o : Obj) (a b d v : Value), (((((w3.setCell ⟨z + 1 + 1, 0, none⟩ a).setCell ⟨z + 1 + 1, 1, none⟩ b).setCell ⟨z + 1 + 1, 2, none⟩ d).setCell ⟨z + 1 + 1, 3, none⟩ v).alloc o).heap[z + 1 + 1]? = some (.cells #[a, b, d, v] 46 (0, 0))) := Lib.hid (fun o a b d v => by
        have h4 := heap_setc (heap_setc (heap_setc (heap_setc HD.out 0 a) 1 b) 2 d) 3 v
        refine (((Below.refl _ _).alloc (Nat.le_refl _) o).block (z + 1 + 1) (Array.getElem?_eq_some_iff.1 h4).1).trans (h4.trans ?_)
        simp)
      obtain ⟨y, hy⟩ : ∃ y, y = z + 1 + 1 := ⟨_, rfl⟩
      have hzz : z + 1 + 1 < w3.heap.size := HA3.out.lt
      rw [← hy] at HR4 HD HDD hzz ⊢
      have hyz : (y == w3.heap.size) = false := by simp; omega
      have hyz2 : (w3.heap.size == y) = false := by simp; omega
      clear hy
      have d0 : w3.cell? ⟨y, 0, none⟩ = some (.int .i64 0) := by simp [World.cell?, HD.out]
      have d1 : w3.cell? ⟨y, 1, none⟩ = some (.int .i64 0) := by simp [World.cell?, HD.out]
      have d2 : w3.cell? ⟨y, 2, none⟩ = some (.int .u64 0) := by simp [World.cell?, HD.out]
      have d3 : w3.cell? ⟨y, 3, none⟩ = some (.string ⟨#[]⟩) := by simp [World.cell?, HD.out]
      have f20 : w3.frozen? ⟨y, 0, none⟩ = false := by simp [World.frozen?, HD.out]
      have f21 : w3.frozen? ⟨y, 1, none⟩ = false := by simp [World.frozen?, HD.out]
      have f22 : w3.frozen? ⟨y, 2, none⟩ = false := by simp [World.frozen?, HD.out]
      have f23 : w3.frozen? ⟨y, 3, none⟩ = false := by simp [World.frozen?, HD.out]
      by_cases hk : k = c.key
      · subst hk
        cases hfr : Sh.fr u with
        | true =>
          rw [hfr] at KF
          have HBE : Hid (Beh c chk GS s ⟨2, (slot : Int), u, v⟩ (k0 + (m1 + m2))) := Lib.hid ⟨fun hk => ⟨fun e => (by cases e), fun _ => by
            obtain ⟨q1, q2, q3⟩ := HKK.out hk
            rw [q3, if_pos q1.symm, hfr, if_pos rfl, HSL.out, ← q2]
            exact ⟨_, rfl⟩⟩, HOV3.out⟩
          clear hfr HKK
          go_wp2_with fail
          with_reducible refine (KF.out _).mono ?_
          rintro e w4 ⟨rfl, rfl⟩
          go_wp2
          refine bodyPost_ret (v := fv ⟨2, (slot : Int), u, v⟩) (by simp [results, Tryz.results56, go_sem, World.cell?, HDD.out]) rfl ?_
          exact ⟨⟨2, (slot : Int), u, v⟩, m1 + m2, rfl, HU.out, (HR4.out _ _ _ _ _).1, HBE.out, (HR4.out _ _ _ _ _).2⟩
        | false =>
          rw [hfr] at KF
          have HBE : Hid (Beh c chk GS s ⟨4, 0, 0, []⟩ (k0 + (m1 + m2))) := Lib.hid ⟨fun hk => ⟨fun e => (by cases e), fun _ => by
            obtain ⟨q1, q2, q3⟩ := HKK.out hk
            rw [q3, if_pos q1.symm, hfr, if_neg (by simp)]
            exact ⟨_, rfl⟩⟩, HOV3.out⟩
          clear hfr HKK
          go_wp2_with fail
          with_reducible refine (KF.out _).mono ?_
          rintro e w4 ⟨rfl, rfl⟩
          go_wp2
          refine bodyPost_ret (v := fv ⟨4, 0, 0, []⟩) (by simp [results, Tryz.results56, go_sem, World.cell?, HDD.out]) rfl ?_
          exact ⟨⟨4, 0, 0, []⟩, m1 + m2, rfl, by decide, (HR4.out _ _ _ _ _).1, HBE.out, (HR4.out _ _ _ _ _).2⟩
      · have ek : (k == c.key) = false := by simpa using hk
        have HBE : Hid (Beh c chk GS s Sk.F.z (k0 + (m1 + m2))) := Lib.hid ⟨fun hkk => ⟨fun _ => ⟨rfl, by
          obtain ⟨q1, q2, q3⟩ := HKK.out hkk
          rw [q3, if_neg (by rw [← q1]; exact hk)]
          exact ⟨{ s with p := 8, sh := ⟨3, u⟩, x := u, rs := gs2.take (Rd.sz gs2) }, ⟨rfl, rfl, rfl, rfl, rfl⟩, rfl⟩⟩, fun e => absurd rfl e⟩, HOV3.out⟩
        clear hk HKK
        go_wp2
        refine bodyPost_ret (v := fv Sk.F.z) (by simp [results, Tryz.results56, go_sem, World.cell?, HDD.out]) rfl ?_
        exact ⟨Sk.F.z, m1 + m2, rfl, by decide, (HR4.out _ _ _ _ _).1, HBE.out, (HR4.out _ _ _ _ _).2⟩
end Go.Proofs.YtknefjigdlbacaaGreatDoor
