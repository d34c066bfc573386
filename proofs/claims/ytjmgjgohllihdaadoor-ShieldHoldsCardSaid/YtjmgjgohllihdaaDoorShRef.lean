/-
  The walks of a tape's Load, and of the document's Shield on a tape. By an AI agent.
-/
import Derived.Test.YtjmgjgohllihdaaDoorShBase
import Derived.Test.YtjmgjgohllihdaaDoorMkMake
set_option linter.unusedSimpArgs false
set_option linter.unusedVariables false
namespace Go.Proofs.YtjmgjgohllihdaaDoor
open Go.RowKit Go.Maps
open Ac (A)
section
variable {B : Nat} {w w' : World} {t c k : Nat} {ad : Option Addr} {gs : List Nat} {x : A}
set_option maxHeartbeats 1000000 in
theorem tload_any (b i : Nat) (h : Ts B w t ad gs c k x) (hx : k = gs.length → ⟨1, b, (i : Int), 0, 0⟩ = x) (hm : gs.length ≤ 1000000) : Calls Tryd.prog 29 #[.pointer (some ⟨t, 0, none⟩), .int .u64 (b : Int), .int .i64 (i : Int)] w fun e w' => e = .returned (.int .u64 ((gs.getD k 0 : Nat) : Int)) ∧ Ts B w' t ad gs c (k + 1) x ∧ Chg t w w' := by
  have K := Lib.hid (show Calls Tryd.prog 45 #[.pointer (some ⟨t, 0, none⟩), .agg #[.int .i64 1, .int .u64 (b : Int), .int .i64 (i : Int), .int .u64 0, .int .u64 0]] w fun e w' => e = .returned (.int .u64 ((gs.getD k 0 : Nat) : Int)) ∧ Ts B w' t ad gs c (k + 1) x ∧ Chg t w w' from tdo_any (y := ⟨1, b, (i : Int), 0, 0⟩) h hx hm)
  clear h hx
  generalize gs.getD k 0 = y at *
  go_enter Tryd.func29, Tryd.ntmps29
  go_wp2_with fail
  with_reducible refine K.out.mono ?_
  rintro e w' ⟨rfl, h1, h2⟩
  have H1 := Lib.hid h1
  have H2 := Lib.hid h2
  clear h1 h2
  go_wp2
  go_ret
  exact ⟨rfl, H1.out, H2.out⟩
end
/-- A block that stands apart from what changes. -/
structure Aside (F : Nat → Prop) (w : World) (z : Nat) (o : Obj) : Prop where
  at' : w.heap[z]? = some o
  apart : ¬ F z
theorem Aside.lt {F : Nat → Prop} {w : World} {z : Nat} {o : Obj} (h : Aside F w z o) : z < w.heap.size := (Array.getElem?_eq_some_iff.1 h.at').1
theorem Aside.tn {F F' : Nat → Prop} {w w' : World} {z : Nat} {o : Obj} (h : Aside F w z o) (ht : Tn F F' w w') : Aside F' w' z o :=
  ⟨(ht.block z h.lt h.apart).trans h.at', fun e => (ht.foot z e).elim h.apart (fun e2 => by have := h.lt; omega)⟩
theorem Aside.below {F : Nat → Prop} {w w' : World} {z : Nat} {o : Obj} (h : Aside F w z o) (hb : Below w.heap.size w w') : Aside F w' z o := h.tn (Tn.of_below hb)
theorem Aside.cell {F : Nat → Prop} {w : World} {z : Nat} {cs : Array Value} {t : TypeId} {zz : Nat × Nat} (h : Aside F w z (.cells cs t zz)) (i : Nat) {v : Value} (hv : cs[i]? = some v) : w.cell? ⟨z, i, none⟩ = some v := by
  simp [World.cell?, h.at', hv]
/-- The cells of a site. -/
abbrev siteC (d t n k s : Int) : Array Value := #[.int .u64 d, .int .i64 t, .int .i64 n, .int .i64 k, .int .u64 s]
/-- How many answers are still to be read. -/
def tat (t m : Nat) (W : World) : Nat := match W.cell? ⟨t, 2, none⟩, W.cell? ⟨t, 1, none⟩ with
  | some (.bool false), some (.int _ i) => m + 1 - i.toNat
  | _, _ => 0
theorem tat_eq {B : Nat} {w : World} {t c k : Nat} {ad : Option Addr} {gs : List Nat} {x : A} (h : Ts B w t ad gs c k x) : tat t gs.length w = if gs.length < k then 0 else gs.length + 1 - k := by
  unfold tat
  rw [h.own.c2, h.own.c1]
  by_cases hk : gs.length < k
  · rw [decide_eq_true hk, if_pos hk]
  · rw [decide_eq_false hk, if_neg hk]
    show gs.length + 1 - ((min k gs.length : Nat) : Int).toNat = _
    omega
/-- What the document's Shield comes to, on a tape. -/
def Tolds (B t : Nat) (ad : Option Addr) (gs : List Nat) (c : Nat) (x : A) (v : Nat) (w : World) (e : Ending) (w' : World) : Prop :=
  ∃ u m : Nat, e = .returned (.int .u64 (u : Int)) ∧ (Sh.more (Sh.run v gs) = false → u = (Sh.run v gs).r) ∧ Ts B w' t ad gs c m x ∧ (gs.length < m ↔ Sh.more (Sh.run v gs) = true) ∧ Below B w w'
theorem drbox_in (th : Nat) (hth : th ≤ 63) (W : World) : Calls Tryd.prog 27 #[.int .i64 (th : Int)] W (Same (.int .i64 (3 + 2 * (th : Int))) W) := by
  have := drbox_any (th : Int) W
  rwa [Dk.box_in (by omega) (by omega)] at this
set_option maxRecDepth 100000 in
set_option maxHeartbeats 4000000 in
theorem rdshield_any {B : Nat} {w : World} {t c : Nat} {ad : Option Addr} {gs : List Nat} (d th : Nat) (n₀ k₀ s : Int) (b i v : Nat) (hth : th ≤ 63) (h : Ts B w t ad gs c 0 (Sh.act d (3 + 2 * (th : Int)) b (i : Int) (Sh.run v gs))) (hv : v < 18446744073709551616) (hw : ∀ x ∈ gs, x < 18446744073709551616) (hm : gs.length ≤ 1000) :
    Calls Tryd.prog 11 #[.pointer (some ⟨t, 0, none⟩), .agg (siteC (d : Int) (th : Int) n₀ k₀ s), .int .u64 (b : Int), .int .i64 (i : Int), .int .u64 (v : Int)] w (Tolds B t ad gs c (Sh.act d (3 + 2 * (th : Int)) b (i : Int) (Sh.run v gs)) v w) := by
  obtain ⟨X, hX⟩ : ∃ X, X = Sh.act d (3 + 2 * (th : Int)) b (i : Int) (Sh.run v gs) := ⟨_, rfl⟩
  rw [← hX] at h ⊢
  have KL : ∀ (W : World) (j : Nat), Ts B W t ad gs c j X → (j = gs.length → (Sh.run v gs).p = 2) → Calls Tryd.prog 29 #[.pointer (some ⟨t, 0, none⟩), .int .u64 (b : Int), .int .i64 (i : Int)] W fun e w' => e = .returned (.int .u64 ((gs.getD j 0 : Nat) : Int)) ∧ Ts B w' t ad gs c (j + 1) X ∧ Chg t W w' := fun W j h hj => by
    refine tload_any b i h (fun e => ?_) (by omega)
    have := hj e
    rw [hX]
    unfold Sh.act
    rw [if_neg (by omega), if_pos this]
  have KS : ∀ (W : World) (j r : Nat), Ts B W t ad gs c j X → (j = gs.length → Sh.run v gs = ⟨1, r⟩) → Calls Tryd.prog 26 #[.pointer (some ⟨t, 0, none⟩), .int .u64 (d : Int), .int .i64 (3 + 2 * (th : Int)), .int .u64 ((r / 8 : Nat) : Int)] W fun e w' => e = .returned (.tuple #[]) ∧ Ts B w' t ad gs c (j + 1) X ∧ Chg t W w' := fun W j r h hj => by
    have := tstore_any d (3 + 2 * th) (r / 8) h (fun e => ?_) (by omega)
    · rw [show ((3 + 2 * th : Nat) : Int) = 3 + 2 * (th : Int) by omega] at this
      exact this
    · rw [hX, hj e]
      show _ = (⟨2, d, 3 + 2 * (th : Int), 0, r / 8⟩ : A)
      congr 1
  have HL := Lib.hid KL; clear KL
  have HS := Lib.hid KS; clear KS
  have HT := Lib.hid (drbox_in th hth)
  have HF := Lib.hid (fun (n : Nat) (W : World) (h : n < 18446744073709551616) => rfreshn n W h)
  have HK := Lib.hid (fun (n : Nat) (W : World) (h : n < 18446744073709551616) => rblockn n W h)
  have HX := Lib.hid hX; clear hX
  obtain ⟨cl, hcl⟩ : ∃ cl : Int, cl = 3 + 2 * (th : Int) := ⟨_, rfl⟩
  rw [← hcl] at HS HT
  clear hcl
  obtain ⟨m, hmm⟩ : ∃ m, m = gs.length := ⟨_, rfl⟩
  have HM := Lib.hid hmm
  rw [← hmm] at hm
  clear hmm
  have HW := Lib.hid (Sh.getD_lt hw); clear hw
  obtain ⟨W, hW⟩ : ∃ W, W = w.alloc (.cells (siteC (d : Int) (th : Int) n₀ k₀ s) 24) := ⟨_, rfl⟩
  have hwn : W.heap[w.heap.size]? = some (.cells (siteC (d : Int) (th : Int) n₀ k₀ s) 24 (0, 0)) := by rw [hW]; exact heap_alloc_new w _
  have hbW : Below w.heap.size w W := by rw [hW]; exact (Below.refl _ w).alloc (Nat.le_refl _) _
  have HA := Lib.hid (show Aside (fun k => k = t) W w.heap.size (.cells (siteC (d : Int) (th : Int) n₀ k₀ s) 24 (0, 0)) from ⟨hwn, fun e => by have := h.own.lt; omega⟩)
  have HB := Lib.hid (show Below B w W from hbW.mono h.bw)
  have HTS := Lib.hid (h.below hbW)
  have HV := Lib.hid hv
  clear h hwn hbW hth hv
  go_enter Tryd.func11, Tryd.ntmps11
  go_wp2_with fail
  rw [← hW]
  clear hW
  generalize w.heap.size = z at HA ⊢
  go_loopw [4, 11] (fun r _ wr => ∃ k rv : Nat, r = .int .u64 (rv : Int) ∧ rv < 18446744073709551616 ∧ Ts B wr t ad gs c k X ∧ Aside (fun k => k = t) wr z (.cells (siteC (d : Int) (th : Int) n₀ k₀ s) 24 (0, 0)) ∧ Below B w wr ∧ (k ≤ m → Sh.run v (gs.take k) = Sh.new rv) ∧ (m < k → Sh.more (Sh.run v gs) = true)) (fun _ _ wr => tat t m wr)
  case atStart => exact ⟨0, v, rfl, HV.out, HTS.out, HA.out, HB.out, fun _ => rfl, fun h => by omega⟩
  case round =>
    clear HTS HA HB
    obtain ⟨k, rv, rfl, hrv, hts, has, hbb, hr1, hr2⟩ := hrel
    have o2 := hts.own.c2
    have KF := HF.out rv wr hrv
    cases hf : Sh.fr rv with
    | false =>
      rw [hf] at KF
      have KF := Lib.hid KF
      have HTS := Lib.hid hts
      have HBB := Lib.hid hbb
      have HR1 := Lib.hid hr1
      have HR2 := Lib.hid hr2
      have HFF := Lib.hid hf
      clear hts has hbb hr1 hr2 hf o2
      go_wp2_with fail
      with_reducible refine KF.out.mono ?_
      rintro e w2 ⟨rfl, rfl⟩
      go_wp2
      go_ret
      have hlen := HM.out
      by_cases hkm : m < k
      · have hmo := HR2.out hkm
        refine ⟨rv, k, rfl, fun h => ?_, HTS.out, ?_, HBB.out⟩
        · rw [hmo] at h; cases h
        · exact ⟨fun _ => hmo, fun _ => by omega⟩
      · have h4 := HR1.out (by omega)
        rw [Sh.new_no HFF.out] at h4
        have h5 := Sh.run_end h4 gs.length (by omega) (Nat.le_refl _)
        rw [Sh.run_all] at h5
        refine ⟨rv, k, rfl, fun h => by rw [h5], HTS.out, ?_, HBB.out⟩
        rw [h5]
        exact ⟨fun h => by omega, fun h => by cases h⟩
    | true =>
      rw [hf] at KF
      have KF := Lib.hid KF
      by_cases hkm : m < k
      · rw [decide_eq_true (by have := HM.out; omega)] at o2
        have HTS := Lib.hid hts
        have HBB := Lib.hid hbb
        have HR := Lib.hid (hr2 hkm)
        have HKM := Lib.hid hkm
        clear hts has hbb hr1 hr2 hf hkm
        go_wp2_with fail
        with_reducible refine KF.out.mono ?_
        rintro e w2 ⟨rfl, rfl⟩
        go_wp2
        go_ret
        refine ⟨rv, k, rfl, fun h => ?_, HTS.out, ?_, HBB.out⟩
        · rw [HR.out] at h; cases h
        · have := HM.out
          have := HKM.out
          exact ⟨fun _ => HR.out, fun _ => by omega⟩
      · rw [decide_eq_false (by have := HM.out; omega)] at o2
        have hr1 := hr1 (by omega)
        rw [Sh.new_yes hf] at hr1
        have d0 := has.cell 0 rfl
        have d1 := has.cell 1 rfl
        have hdr : Below wr.heap.size wr wr.drew := (Below.refl _ wr).drew
        have KST := Lib.hid (HS.out wr.drew k rv (hts.below hdr) (fun e => by rw [← Sh.run_all, ← e]; exact hr1))
        have HBD := Lib.hid (hbb.trans (hdr.mono hts.bw))
        have hlen := HM.out
        have hk2 : k + 1 ≤ m → Sh.run v (gs.take (k + 1)) = ⟨2, rv⟩ := fun h => by rw [Sh.run_next (by omega), hr1]; rfl
        have hp3 : k + 1 = gs.length → (Sh.run v gs).p = 2 := fun e => by rw [← Sh.run_all, ← e, hk2 (by omega)]
        have hk3 : k + 2 ≤ m → Sh.run v (gs.take (k + 2)) = Sh.step ⟨2, rv⟩ (gs.getD (k + 1) 0) := fun h => by rw [Sh.run_next (by omega), hk2 (by omega)]
        have hk4 : m < k + 2 → Sh.more (Sh.run v gs) = true := fun h => by
          rw [← Sh.run_all]
          by_cases e : gs.length = k
          · rw [e, hr1]; rfl
          · rw [show gs.length = k + 1 by omega, hk2 (by omega)]; rfl
        have HK3 := Lib.hid hk3
        have HK4 := Lib.hid hk4
        have HP3 := Lib.hid hp3
        have HAS := Lib.hid (has.below hdr)
        have HT0 := Lib.hid hts
        have HKM := Lib.hid (show k ≤ m by omega)
        have KB := Lib.hid (fun W => HK.out rv W hrv)
        have HY := Lib.hid (HW.out (k + 1))
        clear hts has hbb hr1 hr2 hdr hlen hk2 hk3 hk4 hp3 hkm hf hrv
        go_wp2_with fail
        with_reducible refine KF.out.mono ?_
        rintro e w2 ⟨rfl, rfl⟩
        go_wp2
        go_region_held3 (fun w' => w'.cell? ⟨z, 0, none⟩ = some (.int .u64 (d : Int)) ∧ w'.cell? ⟨z, 1, none⟩ = some (.int .i64 (th : Int)))
          (first | exact ⟨A2.out.cell 0 rfl, A2.out.cell 1 rfl⟩ | exact ⟨HAS.out.cell 0 rfl, HAS.out.cell 1 rfl⟩ | fail)
          (first | (go_at_call 27; refine (HT.out _).mono ?_; rintro e w2 ⟨rfl, rfl⟩) | (go_at_call 28; refine (KB.out _).mono ?_; rintro e w2 ⟨rfl, rfl⟩) | (go_at_call 26; refine KST.out.mono ?_; rintro e w2 ⟨rfl, h2, hc2⟩; have A2 := Lib.hid (HAS.out.tn hc2)) | fail)
        have KL := Lib.hid (HL.out w2 (k + 1) h2 (fun e => HP3.out e))
        have HB2 := Lib.hid (HBD.out.trans ((HT0.out.below ((Below.refl _ wr).drew)).chg hc2))
        have H2 := Lib.hid h2
        clear h2 hc2 KST HAS HBD HP3
        go_wp2_with fail
        with_reducible refine KL.out.mono ?_
        rintro e w3 ⟨rfl, h3, hc3⟩
        have HB3 := Lib.hid (HB2.out.trans (H2.out.chg hc3))
        have A3 := Lib.hid (A2.out.tn hc3)
        have H3 := Lib.hid h3
        clear h3 hc3 KL HB2 H2 A2
        generalize gs.getD (k + 1) 0 = y at *
        have KY := Lib.hid (HK.out y w3 HY.out)
        go_wp2_with fail
        with_reducible refine KY.out.mono ?_
        rintro e w4 ⟨rfl, rfl⟩
        go_wp2_with fail
        with_reducible refine (KB.out _).mono ?_
        rintro e w4 ⟨rfl, rfl⟩
        by_cases hy : y / 8 = rv / 8
        · have e1 : (((y / 8 : Nat) : Int) == ((rv / 8 : Nat) : Int)) = true := by simp; omega
          have HYE := Lib.hid hy
          clear hy
          go_wp2
          go_ret
          have := HM.out
          refine ⟨y, k + 2, rfl, fun h => ?_, H3.out, ?_, HB3.out⟩
          · by_cases e : m < k + 2
            · rw [HK4.out e] at h; cases h
            · have h4 := HK3.out (by omega)
              rw [Sh.step2_same HYE.out] at h4
              rw [← Sh.run_all, Sh.run_end h4 gs.length (by omega) (Nat.le_refl _)]
          · constructor
            · intro h; exact HK4.out (by omega)
            · intro h
              by_cases e : m < k + 2
              · omega
              · have h4 := HK3.out (by omega)
                rw [Sh.step2_same HYE.out] at h4
                rw [← Sh.run_all, Sh.run_end h4 gs.length (by omega) (Nat.le_refl _)] at h
                cases h
        · have e1 : (((y / 8 : Nat) : Int) == ((rv / 8 : Nat) : Int)) = false := by simp; omega
          have HYN := Lib.hid hy
          clear hy
          go_wp2
          go_roundw
          case rel => exact ⟨k + 2, y, rfl, HY.out, H3.out, A3.out, HB3.out, fun h => by rw [HK3.out h, Sh.step2_oth HYN.out], fun h => HK4.out h⟩
          case measure =>
            have h1 := tat_eq H3.out
            have h2 := tat_eq HT0.out
            have hm := HM.out
            have := HKM.out
            rw [← hm] at h1 h2
            rw [h1, h2]
            split <;> split <;> omega
end Go.Proofs.YtjmgjgohllihdaaDoor
