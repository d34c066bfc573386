/-
  The walks of a tape's Load, and of the document's Guard on a tape. By an AI agent.
-/
import Derived.Test.YtdmmgnicbemghaaDoorGdBase
import Derived.Test.YtdmmgnicbemghaaDoorMkMake
set_option linter.unusedSimpArgs false
set_option linter.unusedVariables false
namespace Go.Proofs.YtdmmgnicbemghaaDoor
open Go.RowKit Go.Maps
open Ac (A)
section
variable {B : Nat} {w w' : World} {t c k : Nat} {ad : Option Addr} {gs : List Nat} {x : A}
set_option maxHeartbeats 1000000 in
theorem tload_any (b i : Nat) (h : Ts B w t ad gs c k x) (hx : k = gs.length → ⟨1, b, (i : Int), 0, 0⟩ = x) (hm : gs.length ≤ 1000000) : Calls Tryd.prog 21 #[.pointer (some ⟨t, 0, none⟩), .int .u64 (b : Int), .int .i64 (i : Int)] w fun e w' => e = .returned (.int .u64 ((gs.getD k 0 : Nat) : Int)) ∧ Ts B w' t ad gs c (k + 1) x ∧ Chg t w w' := by
  have K := Lib.hid (show Calls Tryd.prog 34 #[.pointer (some ⟨t, 0, none⟩), .agg #[.int .i64 1, .int .u64 (b : Int), .int .i64 (i : Int), .int .u64 0, .int .u64 0]] w fun e w' => e = .returned (.int .u64 ((gs.getD k 0 : Nat) : Int)) ∧ Ts B w' t ad gs c (k + 1) x ∧ Chg t w w' from tdo_any (y := ⟨1, b, (i : Int), 0, 0⟩) h hx hm)
  clear h hx
  generalize gs.getD k 0 = y at *
  go_enter Tryd.func21, Tryd.ntmps21
  go_wp2_with fail
  with_reducible refine K.out.mono ?_
  rintro e w' ⟨rfl, h1, h2⟩
  have H1 := Lib.hid h1
  have H2 := Lib.hid h2
  clear h1 h2
  go_wp2
  go_ret
  exact ⟨rfl, H1.out, H2.out⟩
end
/-- A block that stands apart from what changes. -/
structure Aside (F : Nat → Prop) (w : World) (z : Nat) (o : Obj) : Prop where
  at' : w.heap[z]? = some o
  apart : ¬ F z
theorem Aside.lt {F : Nat → Prop} {w : World} {z : Nat} {o : Obj} (h : Aside F w z o) : z < w.heap.size := (Array.getElem?_eq_some_iff.1 h.at').1
theorem Aside.tn {F F' : Nat → Prop} {w w' : World} {z : Nat} {o : Obj} (h : Aside F w z o) (ht : Tn F F' w w') : Aside F' w' z o :=
  ⟨(ht.block z h.lt h.apart).trans h.at', fun e => (ht.foot z e).elim h.apart (fun e2 => by have := h.lt; omega)⟩
theorem Aside.below {F : Nat → Prop} {w w' : World} {z : Nat} {o : Obj} (h : Aside F w z o) (hb : Below w.heap.size w w') : Aside F w' z o := h.tn (Tn.of_below hb)
theorem Aside.cell {F : Nat → Prop} {w : World} {z : Nat} {cs : Array Value} {t : TypeId} {zz : Nat × Nat} (h : Aside F w z (.cells cs t zz)) (i : Nat) {v : Value} (hv : cs[i]? = some v) : w.cell? ⟨z, i, none⟩ = some v := by
  simp [World.cell?, h.at', hv]
/-- The cells of a site. -/
abbrev siteC (d t n k s : Int) : Array Value := #[.int .u64 d, .int .i64 t, .int .i64 n, .int .i64 k, .int .u64 s]
/-- How many answers are still to be read. -/
def tat (t m : Nat) (W : World) : Nat := match W.cell? ⟨t, 2, none⟩, W.cell? ⟨t, 1, none⟩ with
  | some (.bool false), some (.int _ i) => m + 1 - i.toNat
  | _, _ => 0
theorem tat_eq {B : Nat} {w : World} {t c k : Nat} {ad : Option Addr} {gs : List Nat} {x : A} (h : Ts B w t ad gs c k x) : tat t gs.length w = if gs.length < k then 0 else gs.length + 1 - k := by
  unfold tat
  rw [h.own.c2, h.own.c1]
  by_cases hk : gs.length < k
  · rw [decide_eq_true hk, if_pos hk]
  · rw [decide_eq_false hk, if_neg hk]
    show gs.length + 1 - ((min k gs.length : Nat) : Int).toNat = _
    omega
/-- What the document's Guard comes to, on a tape. -/
def Toldg (B t : Nat) (ad : Option Addr) (gs : List Nat) (c : Nat) (x : A) (w : World) (e : Ending) (w' : World) : Prop :=
  ∃ v m : Nat, e = .returned (.int .u64 (v : Int)) ∧ (Gd.more (Gd.run gs) = false → v = (Gd.run gs).r) ∧ Ts B w' t ad gs c m x ∧ (gs.length < m ↔ Gd.more (Gd.run gs) = true) ∧ Below B w w'
set_option maxRecDepth 100000 in
set_option maxHeartbeats 4000000 in
theorem rdguard_any {B : Nat} {w : World} {t c : Nat} {ad : Option Addr} {gs : List Nat} (d th : Nat) (n₀ k₀ s : Int) (hth : th ≤ 63) (h : Ts B w t ad gs c 0 (Gd.act d (2 + 2 * (th : Int)) (Gd.run gs))) (hw : ∀ x ∈ gs, x < 18446744073709551616) (hm : gs.length ≤ 1000) :
    Calls Tryd.prog 11 #[.pointer (some ⟨t, 0, none⟩), .agg (siteC (d : Int) (th : Int) n₀ k₀ s)] w (Toldg B t ad gs c (Gd.act d (2 + 2 * (th : Int)) (Gd.run gs)) w) := by
  obtain ⟨X, hX⟩ : ∃ X, X = Gd.act d (2 + 2 * (th : Int)) (Gd.run gs) := ⟨_, rfl⟩
  rw [← hX] at h ⊢
  have KL : ∀ (W : World) (j : Nat), Ts B W t ad gs c j X → (j = gs.length → (Gd.run gs).p = 1 ∨ (Gd.run gs).p = 3) → Calls Tryd.prog 21 #[.pointer (some ⟨t, 0, none⟩), .int .u64 (d : Int), .int .i64 0] W fun e w' => e = .returned (.int .u64 ((gs.getD j 0 : Nat) : Int)) ∧ Ts B w' t ad gs c (j + 1) X ∧ Chg t W w' := fun W j h hj => by
    refine tload_any d 0 h (fun e => ?_) (by omega)
    have := hj e
    rw [hX]
    unfold Gd.act
    rw [if_neg (by omega), if_pos this]
    rfl
  have KS : ∀ (W : World) (j r : Nat), Ts B W t ad gs c j X → (j = gs.length → Gd.run gs = ⟨2, r⟩) → Calls Tryd.prog 22 #[.pointer (some ⟨t, 0, none⟩), .int .u64 (d : Int), .int .i64 (2 + 2 * (th : Int)), .int .u64 (r : Int)] W fun e w' => e = .returned (.tuple #[]) ∧ Ts B w' t ad gs c (j + 1) X ∧ Chg t W w' := fun W j r h hj => by
    have := tstore_any d (2 + 2 * th) r h (fun e => ?_) (by omega)
    · rw [show ((2 + 2 * th : Nat) : Int) = 2 + 2 * (th : Int) by omega] at this
      exact this
    · rw [hX, hj e]
      show _ = (⟨2, d, 2 + 2 * (th : Int), 0, r⟩ : A)
      congr 1
  have KT : ∀ W, Calls Tryd.prog 23 #[.int .i64 (th : Int)] W (Same (.int .i64 (2 + 2 * (th : Int))) W) := fun W => by
    have := drtable_any (th : Int) W
    rwa [Dk.tab_in (by omega) (by omega)] at this
  have HL := Lib.hid KL; clear KL
  have HS := Lib.hid KS; clear KS
  have HT := Lib.hid KT; clear KT
  have HX := Lib.hid hX; clear hX
  obtain ⟨cl, hcl⟩ : ∃ cl : Int, cl = 2 + 2 * (th : Int) := ⟨_, rfl⟩
  rw [← hcl] at HS HT
  clear hcl
  obtain ⟨m, hmm⟩ : ∃ m, m = gs.length := ⟨_, rfl⟩
  have HM := Lib.hid hmm
  rw [← hmm] at hm
  clear hmm
  have HW := Lib.hid hw; clear hw
  obtain ⟨W, hW⟩ : ∃ W, W = w.alloc (.cells (siteC (d : Int) (th : Int) n₀ k₀ s) 24) := ⟨_, rfl⟩
  have hwn : W.heap[w.heap.size]? = some (.cells (siteC (d : Int) (th : Int) n₀ k₀ s) 24 (0, 0)) := by rw [hW]; exact heap_alloc_new w _
  have hbW : Below w.heap.size w W := by rw [hW]; exact (Below.refl _ w).alloc (Nat.le_refl _) _
  have HA := Lib.hid (show Aside (fun k => k = t) W w.heap.size (.cells (siteC (d : Int) (th : Int) n₀ k₀ s) 24 (0, 0)) from ⟨hwn, fun e => by have := h.own.lt; omega⟩)
  have HB := Lib.hid (show Below B w W from hbW.mono h.bw)
  have HTS := Lib.hid (h.below hbW)
  have K0 := Lib.hid (HL.out W 0 HTS.out (fun e => by
    have : gs = [] := List.eq_nil_of_length_eq_zero e.symm
    rw [this]; exact .inl rfl))
  have d0 := HA.out.cell 0 rfl
  have hth0 : B ≤ t := h.tB
  clear h hwn hbW hth
  go_enter Tryd.func11, Tryd.ntmps11
  go_wp2_with fail
  rw [← hW]
  clear hW
  generalize w.heap.size = z at HA d0 ⊢
  go_wp2_with fail
  with_reducible refine K0.out.mono ?_
  rintro e w1 ⟨rfl, h1, hc1⟩
  have H1 := Lib.hid h1
  have HA1 := Lib.hid (HA.out.tn hc1)
  have HB1 := Lib.hid (HB.out.trans (HTS.out.chg hc1))
  clear h1 hc1 K0 HA d0 HTS HB
  have HR1 := Lib.hid (show (1 ≤ m → Gd.run (gs.take 1) = ⟨2, gs.getD 0 0⟩) ∧ (m < 1 → Gd.more (Gd.run gs) = true) by
    have := HM.out
    refine ⟨fun h => by rw [Gd.run_next (by omega)]; rfl, fun h => ?_⟩
    have : gs = [] := List.eq_nil_of_length_eq_zero (by omega)
    rw [this]; rfl)
  generalize gs.getD 0 0 = r0 at *
  go_wp2
  go_loopw [5, 6] (fun r _ wr => ∃ k rv : Nat, 1 ≤ k ∧ r = .int .u64 (rv : Int) ∧ Ts B wr t ad gs c k X ∧ Aside (fun k => k = t) wr z (.cells (siteC (d : Int) (th : Int) n₀ k₀ s) 24 (0, 0)) ∧ Below B w wr ∧ (k ≤ m → Gd.run (gs.take k) = ⟨2, rv⟩) ∧ (m < k → Gd.more (Gd.run gs) = true)) (fun _ _ wr => tat t m wr)
  case atStart => exact ⟨1, r0, by omega, rfl, H1.out, HA1.out, HB1.out, HR1.out.1, HR1.out.2⟩
  case round =>
    clear H1 HA1 HB1 HR1
    obtain ⟨k, rv, hk1, rfl, hts, has, hbb, hr1, hr2⟩ := hrel
    have o2 := hts.own.c2
    by_cases hkm : m < k
    · rw [decide_eq_true (by have := HM.out; omega)] at o2
      have HTS := Lib.hid hts
      have HBB := Lib.hid hbb
      have HR := Lib.hid (hr2 hkm)
      have HK := Lib.hid hkm
      clear hts has hbb hr1 hr2 hkm hk1
      go_wp2
      go_ret
      refine ⟨0, k, rfl, fun h => ?_, HTS.out, ?_, HBB.out⟩
      · rw [HR.out] at h; cases h
      · have := HM.out
        have := HK.out
        exact ⟨fun _ => HR.out, fun _ => by omega⟩
    · rw [decide_eq_false (by have := HM.out; omega)] at o2
      have hr1 := hr1 (by omega)
      have d0 := has.cell 0 rfl
      have d1 := has.cell 1 rfl
      have hdr : Below wr.heap.size wr wr.drew := (Below.refl _ wr).drew
      have KST := Lib.hid (HS.out wr.drew k rv (hts.below hdr) (fun e => by rw [← Gd.run_all, ← e]; exact hr1))
      have HBD := Lib.hid (hbb.trans (hdr.mono hts.bw))
      have hlen := HM.out
      have hk2 : k + 1 ≤ m → Gd.run (gs.take (k + 1)) = ⟨3, rv⟩ := fun h => by rw [Gd.run_next (by omega), hr1]; rfl
      have hp3 : k + 1 = gs.length → (Gd.run gs).p = 1 ∨ (Gd.run gs).p = 3 := fun e => by rw [← Gd.run_all, ← e, hk2 (by omega)]; exact .inr rfl
      have hk3 : k + 2 ≤ m → Gd.run (gs.take (k + 2)) = Gd.step ⟨3, rv⟩ (gs.getD (k + 1) 0) := fun h => by rw [Gd.run_next (by omega), hk2 (by omega)]
      have hk4 : m < k + 2 → Gd.more (Gd.run gs) = true := fun h => by
        rw [← Gd.run_all]
        by_cases e : gs.length = k
        · rw [e, hr1]; rfl
        · rw [show gs.length = k + 1 by omega, hk2 (by omega)]; rfl
      have HK3 := Lib.hid hk3
      have HK4 := Lib.hid hk4
      have HP3 := Lib.hid hp3
      have HAS := Lib.hid (has.below hdr)
      have HT0 := Lib.hid hts
      have HKM := Lib.hid (show k ≤ m by omega)
      clear hts has hbb hr1 hr2 hdr hlen hk2 hk3 hk4 hp3 hkm hk1
      go_wp2
      go_region_held3 (fun w' => w'.cell? ⟨z, 0, none⟩ = some (.int .u64 (d : Int)) ∧ w'.cell? ⟨z, 1, none⟩ = some (.int .i64 (th : Int)))
        (first | exact ⟨A2.out.cell 0 rfl, A2.out.cell 1 rfl⟩ | exact ⟨HAS.out.cell 0 rfl, HAS.out.cell 1 rfl⟩ | fail)
        (first | (go_at_call 23; refine (HT.out _).mono ?_; rintro e w2 ⟨rfl, rfl⟩) | (go_at_call 22; refine KST.out.mono ?_; rintro e w2 ⟨rfl, h2, hc2⟩; have A2 := Lib.hid (HAS.out.tn hc2)) | fail)
      have KL := Lib.hid (HL.out w2 (k + 1) h2 (fun e => HP3.out e))
      have HB2 := Lib.hid (HBD.out.trans ((HT0.out.below ((Below.refl _ wr).drew)).chg hc2))
      have H2 := Lib.hid h2
      have d0 := A2.out.cell 0 rfl
      clear h2 hc2 KST HAS HBD HP3
      go_wp2_with fail
      with_reducible refine KL.out.mono ?_
      rintro e w3 ⟨rfl, h3, hc3⟩
      have HB3 := Lib.hid (HB2.out.trans (H2.out.chg hc3))
      have A3 := Lib.hid (A2.out.tn hc3)
      have H3 := Lib.hid h3
      clear h3 hc3 KL HB2 H2 A2 d0
      generalize gs.getD (k + 1) 0 = y at *
      by_cases hy : y = rv
      · subst hy
        have e1 : ((y : Int) == (y : Int)) = true := by simp
        go_wp2
        go_ret
        have := HM.out
        refine ⟨y, k + 2, rfl, fun h => ?_, H3.out, ?_, HB3.out⟩
        · by_cases e : m < k + 2
          · rw [HK4.out e] at h; cases h
          · have h4 := HK3.out (by omega)
            rw [Gd.step3_yes] at h4
            rw [← Gd.run_all, Gd.run_end h4 gs.length (by omega) (Nat.le_refl _)]
        · constructor
          · intro h; exact HK4.out (by omega)
          · intro h
            by_cases e : m < k + 2
            · omega
            · have h4 := HK3.out (by omega)
              rw [Gd.step3_yes] at h4
              rw [← Gd.run_all, Gd.run_end h4 gs.length (by omega) (Nat.le_refl _)] at h
              cases h
      · have e1 : ((y : Int) == (rv : Int)) = false := by simp; omega
        have HY := Lib.hid hy
        clear hy
        go_wp2
        go_roundw
        case rel => exact ⟨k + 2, y, by omega, rfl, H3.out, A3.out, HB3.out, fun h => by rw [HK3.out h, Gd.step3_no HY.out], fun h => HK4.out h⟩
        case measure =>
          have h1 := tat_eq H3.out
          have h2 := tat_eq HT0.out
          have hm := HM.out
          have := HKM.out
          rw [← hm] at h1 h2
          rw [h1, h2]
          split <;> split <;> omega
end Go.Proofs.YtdmmgnicbemghaaDoor
