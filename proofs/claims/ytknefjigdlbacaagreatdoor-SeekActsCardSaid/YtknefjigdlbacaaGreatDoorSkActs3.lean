/-
  The walk of SeekActs' loop. By an AI agent.
-/
import Derived.Test.YtknefjigdlbacaaGreatDoorSkKBT
set_option linter.unusedSimpArgs false
set_option linter.unusedVariables false
namespace Go.Proofs.YtknefjigdlbacaaGreatDoor
open Go.RowKit Go.Maps
open Ac (A)
theorem sl_at {w : World} {B n : Nat} {ad : Option Addr} {gs : List Nat} (h : Sl .u64 w B ad (Kr.up gs)) (hn : n < gs.length) : ∃ b0 off, ad = some ⟨b0, off, none⟩ ∧ w.cell? ⟨b0, off + n, none⟩ = some (.int .u64 ((gs.getD n 0 : Nat) : Int)) := by
  rcases h with h0 | ⟨b0, off, e, hb0, hc0⟩
  · have : (Kr.up gs).length = 0 := by rw [h0]; rfl
    rw [Kr.up_len] at this; omega
  · refine ⟨b0, off, e, ?_⟩
    have := hc0 n (by rw [Kr.up_len]; exact hn)
    rwa [Kr.up_get hn] at this
theorem eqF_self (a0 a1 a2 : Int) (a : ByteArray) : eqF a0 a1 a2 a0 a1 a2 a a = true := by unfold eqF; rw [beq_toListBytes]; simp
set_option maxRecDepth 100000 in
set_option maxHeartbeats 16000000 in
theorem sacts_in (d : Nat) (t nn kp : Int) (sd b : Nat) (lg : Int) (key : ByteArray) (lay : Nat) (chk : Bool) (gs : List Nat) (A0 : Option Addr) (cap : Nat) (w : World) (hbd : Bd w) (th : Nat) (hth : t = (th : Int)) (hdr : Dk.right (d : Int) t nn kp = true) (htr : Tb.right (b : Int) (Tb.grp lg) = true) (hk16 : key.size ≤ 16) (hsd : sd < 18446744073709551616) (ho : Sk.Ok (seekOf d th nn kp sd b lg key lay)) (hg : gs.length ≤ 80) (hwd : ∀ x ∈ gs, x < 18446744073709551616) (hc : gs.length ≤ cap) (hc2 : cap ≤ maxLen) (hs : Sl .u64 w w.heap.size A0 (Kr.up gs)) :
    Calls Tryz.prog 3 #[.agg #[.int .u64 (b : Int), .int .i64 lg], .agg #[.int .u64 (d : Int), .int .i64 t, .int .i64 nn, .int .i64 kp, .int .u64 (sd : Int), .string key, .int .u64 (lay : Int), .bool chk], .slice A0 gs.length cap] w (Gives (.bool true) w) := by
  unfold maxLen at hc2
  have HB := Lib.hid (tc_below w d t nn kp sd b lg key lay chk)
  obtain ⟨o0, o1, o2⟩ := tc_at w d t nn kp sd b lg key lay chk
  obtain ⟨W, hW⟩ : ∃ W, W = tc w d t nn kp sd b lg key lay chk := ⟨_, rfl⟩
  rw [← hW] at o0 o1 o2 HB
  have hbW := hbd.below HB.out
  have KN := Lib.hid (knew_yes (w := W) d t nn kp sd b lg key lay chk hbW th hth hdr htr hk16 hsd)
  have KM := Lib.hid (fun V => by
    have := rmay_any d t nn kp sd b lg key (by omega) V
    rw [hdr, htr, decide_eq_true hk16] at this
    exact this)
  obtain ⟨c, hcc⟩ : ∃ c, c = seekOf d th nn kp sd b lg key lay := ⟨_, rfl⟩
  have hsz : key.data.toList.length ≤ 16 := by rw [Array.length_toList]; exact hk16
  have KS : ∀ (w1 : World) (n : Nat), Sl .u64 w1 w.heap.size A0 (Kr.up gs) → w.heap.size ≤ w1.heap.size → n ≤ gs.length →
      Calls Tryz.prog 12 #[.pointer (some ⟨w1.heap.size, 0, none⟩), .agg #[.int .u64 (d : Int), .int .i64 t, .int .i64 nn, .int .i64 kp, .int .u64 (sd : Int)], .agg #[.int .u64 (b : Int), .int .i64 lg], .string key, .int .u64 (lay : Int), .bool chk] (w1.alloc (.cells #[.slice A0 (n : Nat) cap, .int .i64 0, .bool false, .int .i64 0, .int .u64 0, .int .i64 0, .int .u64 0, .int .u64 0] 45)) (Rsk w1.heap.size w1.heap.size c (Sk.run c chk (gs.take n)) w1) := fun w1 n h1 h2 h3 => by
    subst hcc hth
    exact seek_round (cap := cap) (chk := chk) (seekOf d th nn kp sd b lg key lay) h1 h2 h3 ho rfl hsz hsd hwd (by omega)
  have hfix : Sk.Ok c ∧ Tb.right (c.b : Int) (Tb.grp c.lg) = true ∧ Dk.right c.d c.th c.nn c.kp = true := by
    subst hcc hth
    exact ⟨ho, htr, hdr⟩
  obtain ⟨hoc, htc, hdc⟩ := hfix
  have KA : ∀ (V : World) (q j : Nat) (H : Nat → Prop), j ≤ gs.length → Ks W.heap.size V q c (Sk.run c chk (gs.take j)) H → Calls Tryz.prog 9 #[.pointer (some ⟨q, 0, none⟩)] V (Gives (.tuple #[av (Sk.act c (Sk.run c chk (gs.take j))), .bool (Sk.more (Sk.run c chk (gs.take j)))]) V) := fun V q j H hj h => skact_any h (wf_run hoc hwd j hj) hoc htc
  have KR : ∀ (V : World) (q j : Nat) (H : Nat → Prop), j ≤ gs.length → Ks W.heap.size V q c (Sk.run c chk (gs.take j)) H → Calls Tryz.prog 11 #[.pointer (some ⟨q, 0, none⟩)] V (Gives (.tuple #[fv (Sk.run c chk (gs.take j)).f, .bool (!Sk.more (Sk.run c chk (gs.take j)))]) V) := fun V q j H hj h => skres_any h (wf_run hoc hwd j hj)
  have KT : ∀ (V : World) (q j : Nat) (H : Nat → Prop), j < gs.length → Bd V → W.heap.size ≤ V.heap.size → Ks W.heap.size V q c (Sk.run c chk (gs.take j)) H → Calls Tryz.prog 10 #[.pointer (some ⟨q, 0, none⟩), .int .u64 ((gs.getD j 0 : Nat) : Int)] V (fun e w' => e = .returned (.tuple #[]) ∧ Taken W.heap.size V q c (Sk.run c chk (gs.take (j + 1))) H w') := fun V q j H hj hbV hBV h => by
    rw [Sk.run_one hj]
    exact sktake_any h (wf_run hoc hwd j (by omega)) hoc htc hbV hdc hBV _ (Rd.wf_getD hwd j)
  have KF : ∀ j, j ≤ gs.length → Sk.more (Sk.run c chk (gs.take j)) = true → (Sk.run c chk (gs.take j)).f = Sk.F.z := fun j hj h => (wf_run hoc hwd j hj).fz (by intro e; unfold Sk.more at h; rw [e] at h; cases h)
  have HKS := Lib.hid KS; clear KS
  have HKA := Lib.hid KA; clear KA
  have HKR := Lib.hid KR; clear KR
  have HKT := Lib.hid KT; clear KT
  have HKF := Lib.hid KF; clear KF
  have HS := Lib.hid hs; clear hs
  have d0 : W.cell? ⟨w.heap.size, 0, none⟩ = some (.int .u64 (b : Int)) := by simp [World.cell?, o0]
  have d1 : W.cell? ⟨w.heap.size, 1, none⟩ = some (.int .i64 lg) := by simp [World.cell?, o0]
  have c0 : W.cell? ⟨w.heap.size + 1, 0, none⟩ = some (.int .u64 (d : Int)) := by simp [World.cell?, o1]
  have c1 : W.cell? ⟨w.heap.size + 1, 1, none⟩ = some (.int .i64 t) := by simp [World.cell?, o1]
  have c2 : W.cell? ⟨w.heap.size + 1, 2, none⟩ = some (.int .i64 nn) := by simp [World.cell?, o1]
  have c3 : W.cell? ⟨w.heap.size + 1, 3, none⟩ = some (.int .i64 kp) := by simp [World.cell?, o1]
  have c4 : W.cell? ⟨w.heap.size + 1, 4, none⟩ = some (.int .u64 (sd : Int)) := by simp [World.cell?, o1]
  have c5 : W.cell? ⟨w.heap.size + 1, 5, none⟩ = some (.string key) := by simp [World.cell?, o1]
  have c6 : W.cell? ⟨w.heap.size + 1, 6, none⟩ = some (.int .u64 (lay : Int)) := by simp [World.cell?, o1]
  have c7 : W.cell? ⟨w.heap.size + 1, 7, none⟩ = some (.bool chk) := by simp [World.cell?, o1]
  have HO := Lib.hid (show _ ∧ _ ∧ _ from ⟨o0, o1, o2⟩)
  have HBD := Lib.hid hbW
  have HW := Lib.hid hW
  obtain ⟨m, hm⟩ : ∃ m, m = gs.length := ⟨_, rfl⟩
  rw [← hm] at hg hc ⊢
  have HMM := Lib.hid hm; clear hm
  have e1 : ¬ (80 : Int) < (m : Int) := by omega
  have e2 : ¬ (100 : Int) < (key.size : Int) := by omega
  have HCC := Lib.hid hcc
  clear hW o0 o1 o2 hbW hbd hdr htr hk16 hsd ho hwd hsz hoc htc hdc hcc hth
  go_enter Tryz.func3, Tryz.ntmps3
  go_wp2_with fail
  rw [show (w.alloc (.cells #[.int .u64 (b : Int), .int .i64 lg] 24)).alloc (.cells #[.int .u64 (d : Int), .int .i64 t, .int .i64 nn, .int .i64 kp, .int .u64 (sd : Int), .string key, .int .u64 (lay : Int), .bool chk] 28) = W from HW.out.symm]
  with_reducible refine KN.out.mono ?_
  rintro e w1 ⟨q, rfl, hq, hk, hb1⟩
  have p0 := (hb1.block (w.heap.size) (Array.getElem?_eq_some_iff.1 HO.out.1).1).trans HO.out.1
  have p1 := (hb1.block (w.heap.size + 1) (Array.getElem?_eq_some_iff.1 HO.out.2.1).1).trans HO.out.2.1
  have HK := Lib.hid (show Ks W.heap.size w1 q c (Sk.start c chk) (fun k => k = q) by rw [HCC.out]; exact ks_start hk hq)
  have HB1 := Lib.hid hb1
  have d0 : w1.cell? ⟨w.heap.size, 0, none⟩ = some (.int .u64 (b : Int)) := by simp [World.cell?, p0]
  have d1 : w1.cell? ⟨w.heap.size, 1, none⟩ = some (.int .i64 lg) := by simp [World.cell?, p0]
  have c0 : w1.cell? ⟨w.heap.size + 1, 0, none⟩ = some (.int .u64 (d : Int)) := by simp [World.cell?, p1]
  have c1 : w1.cell? ⟨w.heap.size + 1, 1, none⟩ = some (.int .i64 t) := by simp [World.cell?, p1]
  have c2 : w1.cell? ⟨w.heap.size + 1, 2, none⟩ = some (.int .i64 nn) := by simp [World.cell?, p1]
  have c3 : w1.cell? ⟨w.heap.size + 1, 3, none⟩ = some (.int .i64 kp) := by simp [World.cell?, p1]
  have c4 : w1.cell? ⟨w.heap.size + 1, 4, none⟩ = some (.int .u64 (sd : Int)) := by simp [World.cell?, p1]
  have c5 : w1.cell? ⟨w.heap.size + 1, 5, none⟩ = some (.string key) := by simp [World.cell?, p1]
  clear hq hk hb1 p0 p1 KN
  go_wp2_with fail
  with_reducible refine (KM.out _).mono ?_
  rintro e w2 ⟨rfl, hb2⟩
  have HK2 := Lib.hid (HK.out.below hb2)
  have HB2 := Lib.hid (HB1.out.trans (hb2.mono HB1.out.size))
  clear hb2 HK HB1 d0 d1 c0 c1 c2 c3 c4 c5 KM
  obtain ⟨z, hz⟩ : ∃ z, z = w.heap.size := ⟨_, rfl⟩
  have HZ := Lib.hid hz
  rw [← hz] at HKS HS HO ⊢
  clear hz
  go_wp2
  go_loopw [12] (fun i wr => ∃ k : Nat, k ≤ m + 1 ∧ i = .int .i64 k ∧ (∃ H, Ks W.heap.size wr q c (Sk.run c chk (gs.take (min k m))) H) ∧ Below W.heap.size W wr) (fun i _ => m + 1 - (intOf i).toNat)
  case atStart => exact ⟨0, by omega, rfl, ⟨_, by rw [Nat.zero_min]; exact HK2.out⟩, HB2.out⟩
  case round =>
    clear HK2 HB2
    obtain ⟨n, hn, rfl, ⟨H, hG⟩, hBb⟩ := hrel
    by_cases hlt : n ≤ m
    · rw [Nat.min_eq_left hlt] at hG
      have hltZ : (n : Int) ≤ (m : Int) := by omega
      have hnc : n ≤ cap := by omega
      have hng : n ≤ gs.length := by rw [← HMM.out]; exact hlt
      have hbw : Below z w wr := by
        have h1 := HB.out
        rw [← HZ.out] at h1
        exact h1.trans (hBb.mono (HZ.out ▸ HB.out.size))
      have KK := HKS.out wr n (HS.out.below hbw) (by have := hbw.size; have := HZ.out; omega) hng
      have p0 := (hBb.block z (Array.getElem?_eq_some_iff.1 HO.out.1).1).trans HO.out.1
      have p1 := (hBb.block (z + 1) (Array.getElem?_eq_some_iff.1 HO.out.2.1).1).trans HO.out.2.1
      have pp0 := fun o => (((Below.refl wr.heap.size wr).alloc (Nat.le_refl _) o).block z (Array.getElem?_eq_some_iff.1 p0).1).trans p0
      have pp1 := fun o => (((Below.refl wr.heap.size wr).alloc (Nat.le_refl _) o).block (z + 1) (Array.getElem?_eq_some_iff.1 p1).1).trans p1
      have d0 : ∀ o, (wr.alloc o).cell? ⟨z, 0, none⟩ = some (.int .u64 (b : Int)) := fun o => by simp [World.cell?, pp0 o]
      have d1 : ∀ o, (wr.alloc o).cell? ⟨z, 1, none⟩ = some (.int .i64 lg) := fun o => by simp [World.cell?, pp0 o]
      have c0 : ∀ o, (wr.alloc o).cell? ⟨z + 1, 0, none⟩ = some (.int .u64 (d : Int)) := fun o => by simp [World.cell?, pp1 o]
      have c1 : ∀ o, (wr.alloc o).cell? ⟨z + 1, 1, none⟩ = some (.int .i64 t) := fun o => by simp [World.cell?, pp1 o]
      have c2 : ∀ o, (wr.alloc o).cell? ⟨z + 1, 2, none⟩ = some (.int .i64 nn) := fun o => by simp [World.cell?, pp1 o]
      have c3 : ∀ o, (wr.alloc o).cell? ⟨z + 1, 3, none⟩ = some (.int .i64 kp) := fun o => by simp [World.cell?, pp1 o]
      have c4 : ∀ o, (wr.alloc o).cell? ⟨z + 1, 4, none⟩ = some (.int .u64 (sd : Int)) := fun o => by simp [World.cell?, pp1 o]
      have c5 : ∀ o, (wr.alloc o).cell? ⟨z + 1, 5, none⟩ = some (.string key) := fun o => by simp [World.cell?, pp1 o]
      have c6 : ∀ o, (wr.alloc o).cell? ⟨z + 1, 6, none⟩ = some (.int .u64 (lay : Int)) := fun o => by simp [World.cell?, pp1 o]
      have c7 : ∀ o, (wr.alloc o).cell? ⟨z + 1, 7, none⟩ = some (.bool chk) := fun o => by simp [World.cell?, pp1 o]
      have HNG := Lib.hid hng
      have HB3 := Lib.hid hBb
      have HGS := Lib.hid hG
      clear hG hBb p0 p1 pp0 pp1 hng hbw
      obtain ⟨M, hMM⟩ : ∃ M, M = Sk.more (Sk.run c chk (gs.take n)) := ⟨_, rfl⟩
      obtain ⟨X, hX⟩ : ∃ X, X = Sk.act c (Sk.run c chk (gs.take n)) := ⟨_, rfl⟩
      obtain ⟨G, hGG⟩ : ∃ G, G = (Sk.run c chk (gs.take n)).f := ⟨_, rfl⟩
      have hfz : M = true → G = Sk.F.z := fun h => by rw [hGG]; exact HKF.out n HNG.out (by rw [← hMM]; exact h)
      unfold Rsk at KK
      rw [← hMM, ← hX, ← hGG] at KK
      have KK := Lib.hid KK
      have HMB := Lib.hid hMM
      have HXX := Lib.hid hX
      have HGG := Lib.hid hGG
      have HFZ := Lib.hid hfz
      clear hX hMM hGG hfz
      go_wp2_with fail
      with_reducible refine KK.out.mono ?_
      rintro e w2 ⟨⟨fk, fc, fw, fl⟩, rfl, hfe, hT2, hb2⟩
      unfold fv
      dsimp only
      obtain ⟨W2, hW2⟩ : ∃ W2, W2 = w2.alloc (.cells #[.int .i64 (fk : Int), .int .i64 fc, .int .u64 (fw : Int), .string ⟨fl.toArray⟩] 46) := ⟨_, rfl⟩
      obtain ⟨z2, hz2⟩ : ∃ z2, z2 = w2.heap.size := ⟨_, rfl⟩
      have hbW2 : Below w2.heap.size w2 W2 := by rw [hW2]; exact (Below.refl _ w2).alloc (Nat.le_refl _) _
      have hf2 : W2.heap[z2]? = some (.cells #[.int .i64 (fk : Int), .int .i64 fc, .int .u64 (fw : Int), .string ⟨fl.toArray⟩] 46 (0, 0)) := by rw [hW2, hz2]; exact heap_alloc_new w2 _
      have hG2 := (HGS.out.below hb2).below hbW2
      have KR := HKR.out _ _ _ _ HNG.out hG2
      rw [← HMB.out, ← HGG.out] at KR
      have KR := Lib.hid KR
      have HG2 := Lib.hid hG2
      have HT2 := Lib.hid (hT2.below hbW2)
      have HF2 := Lib.hid hf2
      have HFE := Lib.hid hfe
      have HB4 := Lib.hid (HB3.out.trans ((hb2.trans (hbW2.mono hb2.size)).mono HB3.out.size))
      have HW2 := Lib.hid hW2
      have HZ2 := Lib.hid hz2
      clear hT2 hb2 hG2 KK HGS HB3 hf2 hfe hbW2 d0 d1 c0 c1 c2 c3 c4 c5 c6 c7 hW2 hz2
      obtain ⟨gk, gc, gw, gv⟩ := G
      unfold fv at KR
      dsimp only at KR
      go_wp2_with fail
      rw [← HW2.out, ← HZ2.out]
      with_reducible refine KR.out.mono ?_
      rintro e w3 ⟨rfl, hb3⟩
      obtain ⟨W3, hW3⟩ : ∃ W3, W3 = w3.alloc (.cells #[.int .i64 (gk : Int), .int .i64 gc, .int .u64 (gw : Int), .string ⟨gv.toArray⟩] 40) := ⟨_, rfl⟩
      obtain ⟨z3, hz3⟩ : ∃ z3, z3 = w3.heap.size := ⟨_, rfl⟩
      have hbW3 : Below w3.heap.size w3 W3 := by rw [hW3]; exact (Below.refl _ w3).alloc (Nat.le_refl _) _
      have hf3 : W3.heap[z3]? = some (.cells #[.int .i64 (gk : Int), .int .i64 gc, .int .u64 (gw : Int), .string ⟨gv.toArray⟩] 40 (0, 0)) := by rw [hW3, hz3]; exact heap_alloc_new w3 _
      have hb3 := hb3.trans (hbW3.mono hb3.size)
      have HG3 := Lib.hid (HG2.out.below hb3)
      have HT3 := Lib.hid (HT2.out.below hb3)
      have HF3 := Lib.hid (show _ ∧ _ from ⟨(hb3.block z2 (Array.getElem?_eq_some_iff.1 HF2.out).1).trans HF2.out, hf3⟩)
      have HB5 := Lib.hid (HB4.out.trans (hb3.mono HB4.out.size))
      have KA := HKA.out _ _ _ _ HNG.out HG3.out
      rw [← HMB.out, ← HXX.out] at KA
      obtain ⟨xk, xb, xc, xo, xn⟩ := X
      have KA := Lib.hid KA
      have HW3 := Lib.hid hW3
      have HZ3 := Lib.hid hz3
      clear hb3 hf3 hbW3 HF2 HG2 HT2 HB4 KR hW3 hz3
      go_wp2_with fail
      rw [← HW3.out, ← HZ3.out]
      with_reducible refine KA.out.mono ?_
      rintro e w5 ⟨rfl, hb5⟩
      obtain ⟨V, hV⟩ : ∃ V, V = w5.alloc (.cells #[.int .i64 xk, .int .u64 (xb : Int), .int .i64 xc, .int .u64 (xo : Int), .int .u64 (xn : Int)] 35) := ⟨_, rfl⟩
      obtain ⟨z5, hz5⟩ : ∃ z5, z5 = w5.heap.size := ⟨_, rfl⟩
      have hbV : Below w5.heap.size w5 V := by rw [hV]; exact (Below.refl _ w5).alloc (Nat.le_refl _) _
      have hf5 : V.heap[z5]? = some (.cells #[.int .i64 xk, .int .u64 (xb : Int), .int .i64 xc, .int .u64 (xo : Int), .int .u64 (xn : Int)] 35 (0, 0)) := by rw [hV, hz5]; exact heap_alloc_new w5 _
      have hb4 := hb5.trans (hbV.mono hb5.size)
      have r2 := (hb4.block z2 (Array.getElem?_eq_some_iff.1 HF3.out.1).1).trans HF3.out.1
      have r3 := (hb4.block z3 (Array.getElem?_eq_some_iff.1 HF3.out.2).1).trans HF3.out.2
      have a0 : V.cell? ⟨z2, 0, none⟩ = some (.int .i64 (fk : Int)) := by simp [World.cell?, r2]
      have a1 : V.cell? ⟨z2, 1, none⟩ = some (.int .i64 fc) := by simp [World.cell?, r2]
      have a2 : V.cell? ⟨z2, 2, none⟩ = some (.int .u64 (fw : Int)) := by simp [World.cell?, r2]
      have a3 : V.cell? ⟨z2, 3, none⟩ = some (.string ⟨fl.toArray⟩) := by simp [World.cell?, r2]
      have b0 : V.cell? ⟨z3, 0, none⟩ = some (.int .i64 (gk : Int)) := by simp [World.cell?, r3]
      have b1 : V.cell? ⟨z3, 1, none⟩ = some (.int .i64 gc) := by simp [World.cell?, r3]
      have b2 : V.cell? ⟨z3, 2, none⟩ = some (.int .u64 (gw : Int)) := by simp [World.cell?, r3]
      have b3 : V.cell? ⟨z3, 3, none⟩ = some (.string ⟨gv.toArray⟩) := by simp [World.cell?, r3]
      have e0 : V.cell? ⟨z5, 0, none⟩ = some (.int .i64 xk) := by simp [World.cell?, hf5]
      have e1 : V.cell? ⟨z5, 1, none⟩ = some (.int .u64 (xb : Int)) := by simp [World.cell?, hf5]
      have e2 : V.cell? ⟨z5, 2, none⟩ = some (.int .i64 xc) := by simp [World.cell?, hf5]
      have e3 : V.cell? ⟨z5, 3, none⟩ = some (.int .u64 (xo : Int)) := by simp [World.cell?, hf5]
      have e4 : V.cell? ⟨z5, 4, none⟩ = some (.int .u64 (xn : Int)) := by simp [World.cell?, hf5]
      obtain ⟨t2, t3, t4, t5, t6, t7, -⟩ := HT3.out.below hb4
      dsimp only at t3 t4 t5 t6 t7
      have HG5 := Lib.hid (HG3.out.below hb4)
      have HB6 := Lib.hid (HB5.out.trans (hb4.mono HB5.out.size))
      have HV := Lib.hid hV
      have HZ5 := Lib.hid hz5
      clear hb5 hbV hb4 KA HG3 HT3 HF3 HB5 hV hz5 hf5 r2 r3
      go_wp2_with fail
      rw [← HV.out, ← HZ5.out]
      generalize wr.heap.size = zt at *
      have q1 := ne_act xk xb xc xo xn xk xb xc xo xn
      rw [eqB_self] at q1
      clear HV HZ5 HW3 HZ3 HW2 HZ2 HMB HXX HGG
      cases M
      · obtain ⟨rfl, rfl, rfl, rfl⟩ : fk = gk ∧ fc = gc ∧ fw = gw ∧ fl = gv := by
          have := HFE.out rfl
          simpa using this
        have q2 := ne_fr (fk : Int) fc (fw : Int) (fk : Int) fc (fw : Int) ⟨fl.toArray⟩ ⟨fl.toArray⟩
        rw [eqF_self] at q2
        clear HFE HFZ
        go_quiet (fail)
        obtain ⟨U, hU⟩ : ∃ U, U = V.drewN nq := ⟨_, rfl⟩
        rw [← hU]
        have hbU : Below V.heap.size V U := by rw [hU]; exact below_drewN V nq
        have HG6 := Lib.hid (HG5.out.below hbU)
        have HB7 := Lib.hid (HB6.out.trans (hbU.mono HB6.out.size))
        clear hU hbU HG5 HB6 t2 t3 t4 t5 t6 t7 e0 e1 e2 e3 e4 q1 q2 a0 a1 a2 a3 b0 b1 b2 b3
        by_cases hlt2 : n < m
        · have hwU : Below z w U := by
            have h1 := HB.out
            rw [← HZ.out] at h1
            exact h1.trans (HB7.out.mono (HZ.out ▸ HB.out.size))
          obtain ⟨b0, off, rfl, hcell⟩ := sl_at (HS.out.below hwU) (show n < gs.length by rw [← HMM.out]; exact hlt2)
          have KT2 := Lib.hid (HKT.out U q n H (by rw [← HMM.out]; exact hlt2) (HBD.out.below HB7.out) HB7.out.size HG6.out)
          have hlt2Z : (n : Int) < (m : Int) := by omega
          generalize gs.getD n 0 = y at hcell KT2
          clear hwU
          go_wp2_with fail
          with_reducible refine KT2.out.mono ?_
          rintro e w6 ⟨rfl, H', hG7, ht6⟩
          have HG7 := Lib.hid hG7
          have HB8 := Lib.hid (HB7.out.trans (ht6.below (fun k hk => (HG6.out.foot hk).1) HB7.out.size))
          clear hG7 ht6 KT2 HB7 HG6
          go_wp2
          go_roundw
          case rel => exact ⟨n + 1, by omega, by go_num, ⟨H', by rw [Nat.min_eq_left (by omega)]; exact HG7.out⟩, HB8.out⟩
          case measure => simp [intOf]; omega
        · have hlt2Z : ¬ (n : Int) < (m : Int) := by omega
          go_wp2
          go_roundw
          case rel => exact ⟨n + 1, by omega, by go_num, ⟨H, by rw [Nat.min_eq_right (by omega), show m = n by omega]; exact HG6.out⟩, HB7.out⟩
          case measure => simp [intOf]; omega
      · obtain ⟨rfl, rfl, rfl, rfl⟩ : gk = 0 ∧ gc = 0 ∧ gw = 0 ∧ gv = [] := by
          have := HFZ.out rfl
          simpa [Sk.F.z] using this
        have q2 := ne_fd 0 0 0 0 0 0 ⟨#[]⟩ ⟨#[]⟩
        rw [eqF_self] at q2
        clear HFE HFZ
        go_quiet (fail)
        obtain ⟨U, hU⟩ : ∃ U, U = V.drewN nq := ⟨_, rfl⟩
        rw [← hU]
        have hbU : Below V.heap.size V U := by rw [hU]; exact below_drewN V nq
        have HG6 := Lib.hid (HG5.out.below hbU)
        have HB7 := Lib.hid (HB6.out.trans (hbU.mono HB6.out.size))
        clear hU hbU HG5 HB6 t2 t3 t4 t5 t6 t7 e0 e1 e2 e3 e4 q1 q2 a0 a1 a2 a3 b0 b1 b2 b3
        by_cases hlt2 : n < m
        · have hwU : Below z w U := by
            have h1 := HB.out
            rw [← HZ.out] at h1
            exact h1.trans (HB7.out.mono (HZ.out ▸ HB.out.size))
          obtain ⟨b0, off, rfl, hcell⟩ := sl_at (HS.out.below hwU) (show n < gs.length by rw [← HMM.out]; exact hlt2)
          have KT2 := Lib.hid (HKT.out U q n H (by rw [← HMM.out]; exact hlt2) (HBD.out.below HB7.out) HB7.out.size HG6.out)
          have hlt2Z : (n : Int) < (m : Int) := by omega
          generalize gs.getD n 0 = y at hcell KT2
          clear hwU
          go_wp2_with fail
          with_reducible refine KT2.out.mono ?_
          rintro e w6 ⟨rfl, H', hG7, ht6⟩
          have HG7 := Lib.hid hG7
          have HB8 := Lib.hid (HB7.out.trans (ht6.below (fun k hk => (HG6.out.foot hk).1) HB7.out.size))
          clear hG7 ht6 KT2 HB7 HG6
          go_wp2
          go_roundw
          case rel => exact ⟨n + 1, by omega, by go_num, ⟨H', by rw [Nat.min_eq_left (by omega)]; exact HG7.out⟩, HB8.out⟩
          case measure => simp [intOf]; omega
        · have hlt2Z : ¬ (n : Int) < (m : Int) := by omega
          go_wp2
          go_roundw
          case rel => exact ⟨n + 1, by omega, by go_num, ⟨H, by rw [Nat.min_eq_right (by omega), show m = n by omega]; exact HG6.out⟩, HB7.out⟩
          case measure => simp [intOf]; omega
    · obtain rfl : n = m + 1 := by omega
      have HB := Lib.hid (HB.out.trans (hBb.mono HB.out.size))
      have K9 := Lib.hid (awake_any wr (HBD.out.below hBb))
      clear hBb hG
      go_wp2_with fail
      with_reducible refine K9.out.mono ?_
      rintro e w9 ⟨rfl, hb9⟩
      have BF := Lib.hid (HB.out.trans (hb9.mono HB.out.size))
      clear hb9
      go_wp2
      go_ret
      exact ⟨rfl, BF.out⟩
end Go.Proofs.YtknefjigdlbacaaGreatDoor
