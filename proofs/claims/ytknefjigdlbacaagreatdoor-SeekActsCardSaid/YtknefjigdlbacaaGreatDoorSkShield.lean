/-
  The walks of a tape's Load, and of the document's Shield on a tape. By an AI agent.
-/
import Derived.Test.YtknefjigdlbacaaGreatDoorShBase
import Derived.Test.YtknefjigdlbacaaGreatDoorSkKAO
import Derived.Test.YtknefjigdlbacaaGreatDoorSkKAT
set_option linter.unusedSimpArgs false
set_option linter.unusedVariables false
namespace Go.Proofs.YtknefjigdlbacaaGreatDoor
open Go.RowKit Go.Maps
open Ac (A)
/-- How many answers are still to be read: what the tape's own cells say. -/
def tat (t m : Nat) (W : World) : Nat := match W.cell? ⟨t, 2, none⟩, W.cell? ⟨t, 1, none⟩ with
  | some (.bool false), some (.int _ i) => m + 1 - i.toNat
  | _, _ => 0
theorem tat_eq {B : Nat} {w : World} {t c k : Nat} {ad : Option Addr} {gs : List Nat} {x : A} (h : Ts B w t ad gs c k x) : tat t gs.length w = if gs.length < k then 0 else gs.length + 1 - k := by
  unfold tat
  rw [h.own.c2, h.own.c1]
  by_cases hk : gs.length < k
  · rw [decide_eq_true hk, if_pos hk]
  · rw [decide_eq_false hk, if_neg hk]
    show gs.length + 1 - ((min k gs.length : Nat) : Int).toNat = _
    omega
/-- The shield's answer from the place k0 of the tape on, whose rest is gs. -/
def Tolds (B t k0 : Nat) (ad : Option Addr) (GS gs : List Nat) (c : Nat) (x : A) (v : Nat) (w : World) (e : Ending) (w' : World) : Prop :=
  ∃ u m : Nat, e = .returned (.int .u64 (u : Int)) ∧ u < 18446744073709551616 ∧ Ts B w' t ad GS c (k0 + m) x ∧ (k0 + m ≤ GS.length → Sh.run v (gs.take m) = ⟨3, u⟩ ∧ ∀ j, j < m → Sh.more (Sh.run v (gs.take j)) = true) ∧ (GS.length < k0 + m → k0 ≤ GS.length → ∀ j, j ≤ gs.length → Sh.more (Sh.run v (gs.take j)) = true) ∧ Chg t w w'
theorem drbox_in (th : Nat) (hth : th ≤ 63) (W : World) : Calls Tryz.prog 140 #[.int .i64 (th : Int)] W (Same (.int .i64 (3 + 2 * (th : Int))) W) := by
  have := drbox_any (th : Int) W
  rwa [Dk.box_in (by omega) (by omega)] at this
set_option maxRecDepth 100000 in
set_option maxHeartbeats 4000000 in
theorem rdshield_from {B : Nat} {w : World} {t c : Nat} {ad : Option Addr} {GS gs : List Nat} {X : A} (k0 d th : Nat) (n₀ k₀ s : Int) (b i v : Nat) (hth : th ≤ 63) (hgs : gs = GS.drop k0) (h : Ts B w t ad GS c k0 X) (hX : k0 ≤ GS.length → Sh.more (Sh.run v gs) = true → (∀ j, j ≤ gs.length → Sh.more (Sh.run v (gs.take j)) = true) → X = Sh.act d (3 + 2 * (th : Int)) b (i : Int) (Sh.run v gs)) (hv : v < 18446744073709551616) (hw0 : ∀ x ∈ GS, x < 18446744073709551616) (hm0 : GS.length ≤ 1000) :
    Calls Tryz.prog 108 #[.pointer (some ⟨t, 0, none⟩), .agg (siteC (d : Int) (th : Int) n₀ k₀ s), .int .u64 (b : Int), .int .i64 (i : Int), .int .u64 (v : Int)] w (Tolds B t k0 ad GS gs c X v w) := by
  have hw : ∀ x ∈ gs, x < 18446744073709551616 := fun x hx => hw0 x (by rw [hgs] at hx; exact List.mem_of_mem_drop hx)
  have hlen0 : gs.length = GS.length - k0 := by rw [hgs, List.length_drop]
  have hm : gs.length ≤ 1000 := by omega
  have KL : ∀ (W : World) (j : Nat), Ts B W t ad GS c (k0 + j) X → (j = gs.length → (Sh.run v gs).p = 2 ∧ ∀ j, j ≤ gs.length → Sh.more (Sh.run v (gs.take j)) = true) → Calls Tryz.prog 47 #[.pointer (some ⟨t, 0, none⟩), .int .u64 (b : Int), .int .i64 (i : Int)] W fun e w' => e = .returned (.int .u64 ((gs.getD j 0 : Nat) : Int)) ∧ Ts B w' t ad GS c (k0 + (j + 1)) X ∧ Chg t W w' := fun W j h hj => by
    rw [hgs, getD_drop]
    refine tload_any b i h (fun e => ?_) (by omega)
    have := hj (by omega)
    rw [hX (by omega) (by unfold Sh.more; rw [this.1]; rfl) this.2]
    unfold Sh.act
    rw [if_neg (by omega), if_pos this.1]
  have KS : ∀ (W : World) (j r : Nat), Ts B W t ad GS c (k0 + j) X → (j = gs.length → Sh.run v gs = ⟨1, r⟩ ∧ ∀ j, j ≤ gs.length → Sh.more (Sh.run v (gs.take j)) = true) → Calls Tryz.prog 139 #[.pointer (some ⟨t, 0, none⟩), .int .u64 (d : Int), .int .i64 (3 + 2 * (th : Int)), .int .u64 ((r / 8 : Nat) : Int)] W fun e w' => e = .returned (.tuple #[]) ∧ Ts B w' t ad GS c (k0 + (j + 1)) X ∧ Chg t W w' := fun W j r h hj => by
    have := tstore_any d (3 + 2 * th) (r / 8) h (fun e => ?_) (by omega)
    · rw [show ((3 + 2 * th : Nat) : Int) = 3 + 2 * (th : Int) by omega] at this
      exact this
    · have hj := hj (by omega)
      rw [hX (by omega) (by rw [hj.1]; rfl) hj.2, hj.1]
      show _ = (⟨2, d, 3 + 2 * (th : Int), 0, r / 8⟩ : A)
      congr 1
  have HL := Lib.hid KL; clear KL
  have HS := Lib.hid KS; clear KS
  have HT := Lib.hid (drbox_in th hth)
  have HF := Lib.hid (fun (n : Nat) (W : World) (h : n < 18446744073709551616) => rfreshn n W h)
  have HK := Lib.hid (fun (n : Nat) (W : World) (h : n < 18446744073709551616) => rblockn n W h)
  clear hX
  obtain ⟨cl, hcl⟩ : ∃ cl : Int, cl = 3 + 2 * (th : Int) := ⟨_, rfl⟩
  rw [← hcl] at HS HT
  clear hcl
  obtain ⟨m, hmm⟩ : ∃ m, m = gs.length := ⟨_, rfl⟩
  have HM := Lib.hid (show m = gs.length ∧ gs.length = GS.length - k0 from ⟨hmm, hlen0⟩)
  rw [← hmm] at hm
  clear hmm
  have HW := Lib.hid (Sh.getD_lt hw); clear hw hw0 hgs hlen0
  obtain ⟨W, hW⟩ : ∃ W, W = w.alloc (.cells (siteC (d : Int) (th : Int) n₀ k₀ s) 26) := ⟨_, rfl⟩
  have hwn : W.heap[w.heap.size]? = some (.cells (siteC (d : Int) (th : Int) n₀ k₀ s) 26 (0, 0)) := by rw [hW]; exact heap_alloc_new w _
  have hbW : Below w.heap.size w W := by rw [hW]; exact (Below.refl _ w).alloc (Nat.le_refl _) _
  have HA := Lib.hid (show Aside (fun k => k = t) W w.heap.size (.cells (siteC (d : Int) (th : Int) n₀ k₀ s) 26 (0, 0)) from ⟨hwn, fun e => by have := h.own.lt; omega⟩)
  have HB := Lib.hid (show Chg t w W from Tn.of_below hbW)
  have HTS := Lib.hid (h.below hbW)
  have HV := Lib.hid hv
  clear h hwn hbW hth hv
  go_enter Tryz.func108, Tryz.ntmps108
  go_wp2_with fail
  rw [← hW]
  clear hW
  generalize w.heap.size = z at HA ⊢
  go_loopw [4, 11] (fun r _ wr => ∃ k rv : Nat, r = .int .u64 (rv : Int) ∧ rv < 18446744073709551616 ∧ Ts B wr t ad GS c (k0 + k) X ∧ Aside (fun k => k = t) wr z (.cells (siteC (d : Int) (th : Int) n₀ k₀ s) 26 (0, 0)) ∧ Chg t w wr ∧ (k0 + k ≤ GS.length → Sh.run v (gs.take k) = Sh.new rv ∧ ∀ j, j < k → Sh.more (Sh.run v (gs.take j)) = true) ∧ (GS.length < k0 + k → k0 ≤ GS.length → ∀ j, j ≤ gs.length → Sh.more (Sh.run v (gs.take j)) = true)) (fun _ _ wr => tat t GS.length wr)
  case atStart => exact ⟨0, v, rfl, HV.out, HTS.out, HA.out, HB.out, fun _ => ⟨rfl, fun j h => by omega⟩, fun h => by omega⟩
  case round =>
    clear HTS HA HB
    obtain ⟨k, rv, rfl, hrv, hts, has, hbb, hr1, hr2⟩ := hrel
    have o2 := hts.own.c2
    have KF := HF.out rv wr hrv
    cases hf : Sh.fr rv with
    | false =>
      rw [hf] at KF
      have KF := Lib.hid KF
      have HTS := Lib.hid hts
      have HBB := Lib.hid hbb
      have HR1 := Lib.hid hr1
      have HR2 := Lib.hid hr2
      have HFF := Lib.hid hf
      have HRV := Lib.hid hrv
      clear hts has hbb hr1 hr2 hf o2 hrv
      go_wp2_with fail
      with_reducible refine KF.out.mono ?_
      rintro e w2 ⟨rfl, rfl⟩
      go_wp2
      go_ret
      refine ⟨rv, k, rfl, HRV.out, HTS.out, fun h => ⟨?_, (HR1.out h).2⟩, HR2.out, HBB.out⟩
      rw [(HR1.out h).1, Sh.new_no HFF.out]
    | true =>
      rw [hf] at KF
      have KF := Lib.hid KF
      by_cases hkm : GS.length < k0 + k
      · rw [decide_eq_true hkm] at o2
        have HTS := Lib.hid hts
        have HBB := Lib.hid hbb
        have HR := Lib.hid hr2
        have HRV := Lib.hid hrv
        have HKM := Lib.hid hkm
        clear hts has hbb hr1 hr2 hf hkm hrv
        go_wp2_with fail
        with_reducible refine KF.out.mono ?_
        rintro e w2 ⟨rfl, rfl⟩
        go_wp2
        go_ret
        exact ⟨rv, k, rfl, HRV.out, HTS.out, fun h => absurd h (by have := HKM.out; omega), HR.out, HBB.out⟩
      · rw [decide_eq_false hkm] at o2
        obtain ⟨hr1, hrj⟩ := hr1 (by omega)
        rw [Sh.new_yes hf] at hr1
        have d0 := has.cell 0 rfl
        have d1 := has.cell 1 rfl
        have hdr : Below wr.heap.size wr wr.drew := (Below.refl _ wr).drew
        have KST := Lib.hid (HS.out wr.drew k rv (hts.below hdr) (fun e => by refine ⟨by rw [← Sh.run_all, ← e]; exact hr1, fun j hj => ?_⟩; by_cases ej : j < k; exact hrj j ej; rw [show j = k by omega, hr1]; rfl))
        have HBD := Lib.hid (hbb.trans (Tn.of_below hdr))
        have hlen := HM.out
        have hk2 : k0 + (k + 1) ≤ GS.length → Sh.run v (gs.take (k + 1)) = ⟨2, rv⟩ := fun h => by rw [Sh.run_next (by omega), hr1]; rfl
        have hj2 : k0 + k ≤ GS.length → ∀ j, j ≤ gs.length → j < k + 2 → Sh.more (Sh.run v (gs.take j)) = true := fun _ j hj h2 => by
          by_cases ej : j < k
          · exact hrj j ej
          · by_cases ek : j = k
            · rw [ek, hr1]; rfl
            · rw [show j = k + 1 by omega, hk2 (by omega)]; rfl
        have hp3 : k + 1 = gs.length → (Sh.run v gs).p = 2 ∧ ∀ j, j ≤ gs.length → Sh.more (Sh.run v (gs.take j)) = true := fun e => ⟨by rw [← Sh.run_all, ← e, hk2 (by omega)], fun j hj => hj2 (by omega) j hj (by omega)⟩
        have hk3 : k0 + (k + 2) ≤ GS.length → Sh.run v (gs.take (k + 2)) = Sh.step ⟨2, rv⟩ (gs.getD (k + 1) 0) ∧ ∀ j, j < k + 2 → Sh.more (Sh.run v (gs.take j)) = true := fun h => ⟨by rw [Sh.run_next (by omega), hk2 (by omega)], fun j hj => hj2 (by omega) j (by omega) hj⟩
        have hk4 : GS.length < k0 + (k + 2) → k0 ≤ GS.length → ∀ j, j ≤ gs.length → Sh.more (Sh.run v (gs.take j)) = true := fun h h0 j hj => hj2 (by omega) j hj (by omega)
        have HK3 := Lib.hid hk3
        have HK4 := Lib.hid hk4
        have HP3 := Lib.hid hp3
        have HAS := Lib.hid (has.below hdr)
        have HT0 := Lib.hid hts
        have HKM := Lib.hid (show k0 + k ≤ GS.length by omega)
        have KB := Lib.hid (fun W => HK.out rv W hrv)
        have HY := Lib.hid (HW.out (k + 1))
        clear hts has hbb hr1 hrj hr2 hdr hlen hk2 hj2 hk3 hk4 hp3 hkm hf hrv
        go_wp2_with fail
        with_reducible refine KF.out.mono ?_
        rintro e w2 ⟨rfl, rfl⟩
        go_wp2
        go_region_held3 (fun w' => w'.cell? ⟨z, 0, none⟩ = some (.int .u64 (d : Int)) ∧ w'.cell? ⟨z, 1, none⟩ = some (.int .i64 (th : Int)))
          (first | exact ⟨A2.out.cell 0 rfl, A2.out.cell 1 rfl⟩ | exact ⟨HAS.out.cell 0 rfl, HAS.out.cell 1 rfl⟩ | fail)
          (first | (go_at_call 140; refine (HT.out _).mono ?_; rintro e w2 ⟨rfl, rfl⟩) | (go_at_call 110; refine (KB.out _).mono ?_; rintro e w2 ⟨rfl, rfl⟩) | (go_at_call 139; refine KST.out.mono ?_; rintro e w2 ⟨rfl, h2, hc2⟩; have A2 := Lib.hid (HAS.out.tn hc2)) | fail)
        have KL := Lib.hid (HL.out w2 (k + 1) h2 (fun e => HP3.out e))
        have HB2 := Lib.hid (HBD.out.trans hc2)
        have H2 := Lib.hid h2
        clear h2 hc2 KST HAS HBD HP3
        go_wp2_with fail
        with_reducible refine KL.out.mono ?_
        rintro e w3 ⟨rfl, h3, hc3⟩
        have HB3 := Lib.hid (HB2.out.trans hc3)
        have A3 := Lib.hid (A2.out.tn hc3)
        have H3 := Lib.hid h3
        clear h3 hc3 KL HB2 H2 A2
        generalize gs.getD (k + 1) 0 = y at *
        have KY := Lib.hid (HK.out y w3 HY.out)
        go_wp2_with fail
        with_reducible refine KY.out.mono ?_
        rintro e w4 ⟨rfl, rfl⟩
        go_wp2_with fail
        with_reducible refine (KB.out _).mono ?_
        rintro e w4 ⟨rfl, rfl⟩
        by_cases hy : y / 8 = rv / 8
        · have e1 : (((y / 8 : Nat) : Int) == ((rv / 8 : Nat) : Int)) = true := by simp; omega
          have HYE := Lib.hid hy
          clear hy
          go_wp2
          go_ret
          refine ⟨y, k + 2, rfl, HY.out, H3.out, fun h => ⟨?_, (HK3.out h).2⟩, HK4.out, HB3.out⟩
          rw [(HK3.out h).1, Sh.step2_same HYE.out]
        · have e1 : (((y / 8 : Nat) : Int) == ((rv / 8 : Nat) : Int)) = false := by simp; omega
          have HYN := Lib.hid hy
          clear hy
          go_wp2
          go_roundw
          case rel => exact ⟨k + 2, y, rfl, HY.out, H3.out, A3.out, HB3.out, fun h => ⟨by rw [(HK3.out h).1, Sh.step2_oth HYN.out], (HK3.out h).2⟩, HK4.out⟩
          case measure =>
            have h1 := tat_eq H3.out
            have h2 := tat_eq HT0.out
            have := HKM.out
            rw [h1, h2]
            split <;> split <;> omega
end Go.Proofs.YtknefjigdlbacaaGreatDoor
