/-
  Several texts in one: The walks of examine, told: what leads a seek on behind a slot was told; The walk of compare: what leads a seek on behind a box was read. By an AI agent.
-/
import Derived.Test.YtknefjigdlbacaaGreatDoorSkGAV
set_option linter.unusedSimpArgs false
set_option linter.unusedVariables false
namespace Go.Proofs.YtknefjigdlbacaaGreatDoor
open Go.RowKit Go.Maps
open Ac (A)
/-- Behind a slot was told: the seek's own cells have changed, there may be a new shield and a new reader. -/
def Exams (q : Nat) (c : Sk.C) (x : Sk.S × Bool) (vc : Value) (w : World) (e : Ending) (w' : World) : Prop := e = .returned (.bool x.2) ∧ ∃ vs vr, Kb w' q c x.1 vc vs vr ∧ Chg q w w' ∧ (x.1.p = 7 → Sq w.heap.size vs w' c x.1) ∧ (x.1.p = 8 → Rq w.heap.size vr w' c x.1 none 0)
set_option maxRecDepth 100000 in
set_option maxHeartbeats 2000000 in
theorem kexam_any {w : World} {q : Nat} {c : Sk.C} {s : Sk.S} {vc vs vr : Value} (h : Kb w q c s vc vs vr) (hbd : Bd w) (hrt : Dk.right c.d c.th c.nn c.kp = true) (hth : c.th ≤ 63) (g0 : -9223372036854775808 ≤ s.g) (g1 : s.g ≤ 9223372036854775807) (hi : s.i ≤ 8) (hsc : 0 ≤ Sk.scell c s) (v : Nat) (hv : v < 18446744073709551616) :
    Calls Tryz.prog 87 #[.pointer (some ⟨q, 0, none⟩), .int .u64 (v : Int)] w (Exams q c (Sk.exam s v) vc w) := by
  have HKS := Lib.hid (kslot_any (h.below (Below.refl _ w).drew) g0 g1 hi)
  have HN : Hid (∀ W, Bd W → Calls Tryz.prog 130 #[.agg #[.int .u64 (c.d : Int), .int .i64 (c.th : Int), .int .i64 c.nn, .int .i64 c.kp, .int .u64 (c.sd : Int)], .int .u64 (c.b : Int), .int .i64 (Sk.scell c s), .int .u64 (v : Int)] W (Snew (Sh.new v) c.d (3 + 2 * (c.th : Int)) c.b (Sk.scell c s) W)) := Lib.hid (fun W hb => by
    have := snew_yes c.d c.th c.nn c.kp c.sd c.b (Sk.scell c s) v W hb hrt hsc hv
    rwa [Dk.box_in (by omega) (by omega)] at this)
  have HH := Lib.hid h
  have HBD := Lib.hid hbd
  have hvr : (Sh.new v).r < 18446744073709551616 := by simp only [Sh.new, Sh.told]; exact hv
  have HVR := Lib.hid hvr
  obtain ⟨s1, hs1⟩ : ∃ s1 : Sk.S, s1 = { s with p := 7, sh := Sh.new v } := ⟨_, rfl⟩
  have HE : Hid (Sk.exam s v = Sk.opn s1) := Lib.hid (by rw [hs1]; rfl)
  have HSC : Hid (Sk.scell c s1 = Sk.scell c s) := Lib.hid (by rw [hs1]; rfl)
  have HP := Lib.hid (show s1.p = 7 ∧ s1.sh = Sh.new v by rw [hs1]; exact ⟨rfl, rfl⟩)
  generalize Sk.exam s v = r at *
  generalize Sk.scell c s = sc at *
  generalize Sh.new v = sn at *
  have HS1 := Lib.hid hs1
  clear h hbd hrt hth g0 g1 hi hsc hs1 hv hvr
  go_enter Tryz.func87, Tryz.ntmps87
  go_wp2
  refine wp_region_held_drew (S := fun w' => ∃ s' a b d, Kb w' q c s' a b d) (by kernel_rfl) ⟨_, _, _, _, HH.out.below (Below.refl _ w).drew⟩ (fun hS => ?_)
  refine wpAnyH_take (i := 0) (v := .pointer (some ⟨q, 0, none⟩)) rfl (by kernel_rfl) (by kernel_rfl) (by kernel_rfl) (fun _ _ _ h => h) (Or.inl ⟨by kernel_rfl, fun w hS => by kernel_rfl⟩) hS ?_
  refine wpAnyH_take (i := 1) (v := .pointer (some ⟨q, 0, none⟩)) rfl (by kernel_rfl) (by kernel_rfl) (by kernel_rfl) (fun _ _ _ h => h) (Or.inl ⟨by kernel_rfl, fun w hS => by kernel_rfl⟩) hS ?_
  refine wpAnyH_take (i := 2) (v := .pointer (some ⟨q, 0, none⟩)) rfl (by kernel_rfl) (by kernel_rfl) (by kernel_rfl) (fun _ _ _ h => h) (Or.inl ⟨by kernel_rfl, fun w hS => by kernel_rfl⟩) hS ?_
  refine wpAnyH_take (i := 3) (v := .pointer (some ⟨q, 0, none⟩)) rfl (by kernel_rfl) (by kernel_rfl) (by kernel_rfl) (fun _ _ _ h => h) (Or.inl ⟨by kernel_rfl, fun w hS => by kernel_rfl⟩) hS ?_
  refine wpAnyH_take (i := 4) (v := .pointer (some ⟨q, 1, none⟩)) rfl (by kernel_rfl) (by kernel_rfl) (by kernel_rfl) (fun _ _ _ h => h) (Or.inl ⟨by kernel_rfl, fun w hS => by kernel_rfl⟩) hS ?_
  refine wpAnyH_take (i := 5) (v := .agg #[.int .u64 (c.d : Int), .int .i64 (c.th : Int), .int .i64 c.nn, .int .i64 c.kp, .int .u64 (c.sd : Int)]) rfl (by kernel_rfl) (by kernel_rfl) (by kernel_rfl) (fun _ _ _ h => h) (Or.inl ⟨by kernel_rfl, fun w hS => by obtain ⟨s', _, _, _, hk⟩ := hS; have k1 := hk.c1; have k2 := hk.c2; have k3 := hk.c3; have k4 := hk.c4; have k5 := hk.c5; have k6 := hk.c6; go_simp⟩) hS ?_
  refine wpAnyH_take (i := 6) (v := .pointer (some ⟨q, 0, none⟩)) rfl (by kernel_rfl) (by kernel_rfl) (by kernel_rfl) (fun _ _ _ h => h) (Or.inl ⟨by kernel_rfl, fun w hS => by kernel_rfl⟩) hS ?_
  refine wpAnyH_take (i := 7) (v := .pointer (some ⟨q, 0, none⟩)) rfl (by kernel_rfl) (by kernel_rfl) (by kernel_rfl) (fun _ _ _ h => h) (Or.inl ⟨by kernel_rfl, fun w hS => by kernel_rfl⟩) hS ?_
  refine wpAnyH_take (i := 8) (v := .pointer (some ⟨q, 6, none⟩)) rfl (by kernel_rfl) (by kernel_rfl) (by kernel_rfl) (fun _ _ _ h => h) (Or.inl ⟨by kernel_rfl, fun w hS => by kernel_rfl⟩) hS ?_
  refine wpAnyH_take (i := 9) (v := .pointer (some ⟨q, 6, none⟩)) rfl (by kernel_rfl) (by kernel_rfl) (by kernel_rfl) (fun _ _ _ h => h) (Or.inl ⟨by kernel_rfl, fun w hS => by kernel_rfl⟩) hS ?_
  refine wpAnyH_take (i := 10) (v := .int .u64 (c.b : Int)) rfl (by kernel_rfl) (by kernel_rfl) (by kernel_rfl) (fun _ _ _ h => h) (Or.inl ⟨by kernel_rfl, fun w hS => by obtain ⟨s', _, _, _, hk⟩ := hS; have k1 := hk.c1; have k2 := hk.c2; have k3 := hk.c3; have k4 := hk.c4; have k5 := hk.c5; have k6 := hk.c6; go_simp⟩) hS ?_
  refine wpAnyH_take (i := 11) (v := .pointer (some ⟨q, 0, none⟩)) rfl (by kernel_rfl) (by kernel_rfl) (by kernel_rfl) (fun _ _ _ h => h) (Or.inl ⟨by kernel_rfl, fun w hS => by kernel_rfl⟩) hS ?_
  refine wpAnyH_take (i := 13) (v := .int .u64 (v : Int)) rfl (by kernel_rfl) (by kernel_rfl) (by kernel_rfl) (fun _ _ _ h => h) (Or.inl ⟨by kernel_rfl, fun w hS => by kernel_rfl⟩) hS ?_
  refine wpAnyH_ready (rs := [12]) (by kernel_rfl) (by simp) ?_
  refine AllReadyH.cons rfl (fun K hK => ?_) AllReadyH.nil
  go_simp
  go_at_call 31
  refine HKS.out.mono ?_
  rintro e w1 ⟨rfl, hb1⟩
  have HB1 := Lib.hid ((Below.refl _ w).drew.trans (hb1.mono (Below.refl w.heap.size w).drew.size))
  clear hb1
  refine hK.out _ _ ⟨_, _, _, _, HH.out.below HB1.out⟩ (fun hS => ?_)
  clear hK K
  refine wpAnyH_ready (rs := [14]) (by kernel_rfl) (by simp) ?_
  refine AllReadyH.cons rfl (fun K hK => ?_) AllReadyH.nil
  go_simp
  go_at_call 130
  refine (HN.out _ (HBD.out.below HB1.out)).mono ?_
  rintro e w2 ⟨qs, rfl, hq, hsb, hb2⟩
  have hb := HB1.out.trans (hb2.mono HB1.out.size)
  have hqs : w.heap.size ≤ qs := Nat.le_trans HB1.out.size hq
  have h0 := HH.out.below hb
  have k0 := h0.c0
  have k18 := h0.c18
  have f0 := h0.fz 0
  have f18 := h0.fz 18
  have h1 := h0.st (s' := { s with p := 7 }) (vc' := vc) (vs' := vs) (vr' := vr) 0 (.int .i64 7) rfl
  have h2 := h1.st (s' := s1) (vc' := vc) (vs' := .pointer (some ⟨qs, 0, none⟩)) (vr' := vr) 18 (.pointer (some ⟨qs, 0, none⟩)) (by rw [HS1.out]; rfl)
  have hch := ((show Chg q w w2 from Tn.of_below hb).set 0 (.int .i64 7) h0.lt).set 18 (.pointer (some ⟨qs, 0, none⟩)) h1.lt
  have hlt := HH.out.lt
  have hsb2 : Sb ((w2.setCell ⟨q, 0, none⟩ (.int .i64 7)).setCell ⟨q, 18, none⟩ (.pointer (some ⟨qs, 0, none⟩))) qs sn c.d (3 + 2 * (c.th : Int)) c.b sc := hsb.keep ((Below.heap_setCell _ _ _ _ (by simp only; omega)).trans (Below.heap_setCell _ _ _ _ (by simp only; omega)))
  have H0 := Lib.hid h0; have H1 := Lib.hid h1; have H2 := Lib.hid h2; have HCH := Lib.hid hch; have HSB := Lib.hid hsb2; have HQ := Lib.hid hqs
  clear h0 h1 h2 hch hsb2 hsb hb2 hb hq hqs hlt
  refine hK.out _ _ ⟨_, _, _, _, H0.out⟩ (fun hS => ?_)
  clear hK K
  refine wpAnyH_take (i := 15) (v := .pointer (some ⟨q, 0, none⟩)) rfl (by kernel_rfl) (by kernel_rfl) (by kernel_rfl) (fun _ _ _ h => h) (Or.inl ⟨by kernel_rfl, fun w hS => by kernel_rfl⟩) hS ?_
  refine wpAnyH_take (i := 16) (v := .pointer (some ⟨q, 0, none⟩)) rfl (by kernel_rfl) (by kernel_rfl) (by kernel_rfl) (fun _ _ _ h => h) (Or.inl ⟨by kernel_rfl, fun w hS => by kernel_rfl⟩) hS ?_
  refine wpAnyH_ready (rs := [17]) (by kernel_rfl) (by simp) ?_
  refine AllReadyH.cons rfl (fun K hK => ?_) AllReadyH.nil
  go_simp
  refine hK.out _ _ ⟨_, _, _, _, H1.out⟩ (fun hS => ?_)
  clear hK K
  refine wpAnyH_take (i := 18) (v := .pointer (some ⟨q, 0, none⟩)) rfl (by kernel_rfl) (by kernel_rfl) (by kernel_rfl) (fun _ _ _ h => h) (Or.inl ⟨by kernel_rfl, fun w hS => by kernel_rfl⟩) hS ?_
  refine wpAnyH_take (i := 19) (v := .pointer (some ⟨q, 18, none⟩)) rfl (by kernel_rfl) (by kernel_rfl) (by kernel_rfl) (fun _ _ _ h => h) (Or.inl ⟨by kernel_rfl, fun w hS => by kernel_rfl⟩) hS ?_
  refine wpAnyH_ready (rs := [20]) (by kernel_rfl) (by simp) ?_
  refine AllReadyH.cons rfl (fun K hK => ?_) AllReadyH.nil
  go_simp
  refine hK.out _ _ ⟨_, _, _, _, H2.out⟩ (fun hS => ?_)
  clear hK K
  refine wpAnyH_done (by kernel_rfl) ?_ _
  have KO := kopen_any H2.out HP.out.1 (by rw [HP.out.2, HSC.out]; exact HSB.out) (by rw [HP.out.2]; exact HVR.out)
  have KO := Lib.hid KO
  obtain ⟨W, hW⟩ : ∃ W, W = (w2.setCell ⟨q, 0, none⟩ (.int .i64 7)).setCell ⟨q, 18, none⟩ (.pointer (some ⟨qs, 0, none⟩)) := ⟨_, rfl⟩
  rw [← hW] at KO H2 HCH HSB ⊢
  clear hW hS
  go_wp2_with fail
  with_reducible refine KO.out.mono ?_
  rintro e w3 ⟨rfl, vr2, h1, h2, h3⟩
  have K1 := Lib.hid h1; have K2 := Lib.hid h2; have K3 := Lib.hid h3
  clear h1 h2 h3 KO k0 k18 f0 f18
  go_wp2
  go_ret
  rw [HE.out]
  refine ⟨rfl, _, _, K1.out, HCH.out.trans K2.out, fun e => ?_, fun e => ?_⟩
  · refine ⟨qs, rfl, HQ.out, ?_⟩
    have e2 : (Sk.opn s1).1 = s1 := opn_7 e
    rw [e2, HP.out.2, HSC.out]
    exact HSB.out.keep (K2.out.block qs HSB.out.lt (by have := HH.out.lt; have := HQ.out; omega))
  · obtain ⟨qr, e3, hrst⟩ := K3.out e
    exact ⟨qr, e3, hrst.mono HCH.out.size⟩
set_option maxHeartbeats 2000000 in
theorem ktold_any {w : World} {q : Nat} {c : Sk.C} {s : Sk.S} {vc vs vr : Value} (h : Kb w q c s vc vs vr) (hp : s.p = 5 ∨ s.p = 6) (hlay : c.lay < 18446744073709551616) (hbd : Bd w) (hrt : Dk.right c.d c.th c.nn c.kp = true) (hth : c.th ≤ 63) (g0 : -9223372036854775808 ≤ s.g) (g1 : s.g ≤ 9223372036854775807) (hi : s.i ≤ 8) (hsc : 0 ≤ Sk.scell c s) (v : Nat) (hv : v < 18446744073709551616) :
    Calls Tryz.prog 37 #[.pointer (some ⟨q, 0, none⟩), .int .u64 (v : Int)] w (Exams q c (Sk.told c s v) vc w) := by
  have HX := Lib.hid (kexam_any h hbd hrt hth g0 g1 hi hsc v hv)
  have HSL := Lib.hid (kslot_any h g0 g1 hi)
  have HLD : Hid (∀ W, Below w.heap.size w W → Calls Tryz.prog 32 #[.pointer (some ⟨q, 0, none⟩)] W (Same (.int .u64 (Sk.laidw c : Nat)) W)) := Lib.hid (fun W hb => klaid_any (h.below hb) hlay)
  have HE : Hid (∀ W (k : Int) (n : Nat) (cc : Int) (ww : Nat), (n : Int) = k → Below w.heap.size w W → Calls Tryz.prog 74 #[.pointer (some ⟨q, 0, none⟩), .agg #[.int .i64 k, .int .i64 cc, .int .u64 (ww : Int), .string ⟨#[]⟩]] W (Ends q c (Sk.fin s ⟨n, cc, ww, []⟩) vc vs vr (.tuple #[]) W)) := Lib.hid (fun W k n cc ww e hb => e ▸ kend_any (h.below hb) n cc ww ⟨#[]⟩)
  have HEZ : Hid (Calls Tryz.prog 74 #[.pointer (some ⟨q, 0, none⟩), .agg #[.int .i64 1, .int .i64 0, .int .u64 0, .string ⟨#[]⟩]] w (Ends q c (Sk.fin s ⟨1, 0, 0, []⟩) vc vs vr (.tuple #[]) w)) := Lib.hid (kend_z h 1)
  have c0 := h.c0
  have f0 := h.fz 0
  have c10 := h.c10
  have HH := Lib.hid h
  have HS6 := Lib.hid (h.st (s' := { s with p := 6 }) (vc' := vc) (vs' := vs) (vr' := vr) 0 (.int .i64 6) rfl)
  have HS7 := Lib.hid ((Chg.refl q w).set 0 (.int .i64 6) h.lt)
  unfold Sk.told
  clear h hbd hrt hth g0 g1 hi hsc hlay
  by_cases hv0 : v = 0
  · rw [if_pos hv0]
    subst hv0
    clear HX
    by_cases h6 : s.p = 6
    · rw [if_pos h6]
      rw [h6] at c0
      generalize Sk.scell c s = sc at *
      generalize Sk.laidw c = lw at *
      clear hp hv c10 HEZ f0 h6
      go_enter Tryz.func37, Tryz.ntmps37
      go_wp2_with fail
      with_reducible refine HSL.out.mono ?_
      rintro e w1 ⟨rfl, hb1⟩
      have HB1 := Lib.hid hb1
      have K1 := Lib.hid (HLD.out _ hb1)
      clear hb1
      go_wp2_with fail
      with_reducible refine K1.out.mono ?_
      rintro e w1 ⟨rfl, rfl⟩
      have K2 := Lib.hid (HE.out w1 3 3 sc lw rfl HB1.out)
      go_wp2_with fail
      with_reducible refine K2.out.mono ?_
      rintro e w2 ⟨rfl, h1, h2⟩
      have H1 := Lib.hid h1; have H2 := Lib.hid ((show Chg q w w1 from Tn.of_below HB1.out).trans h2); clear h1 h2
      go_wp2
      go_ret
      exact ⟨rfl, _, _, H1.out, H2.out, fun e => (by cases e), fun e => (by cases e)⟩
    · have h5 : s.p = 5 := by omega
      rw [if_neg h6]
      rw [h5] at c0
      by_cases hl : c.lay = 0
      · rw [if_pos hl]
        have e1 : ((c.lay : Int) == 0) = true := by simp; omega
        clear hl h5 h6 hp hv
        go_enter Tryz.func37, Tryz.ntmps37
        go_wp2_with fail
        with_reducible refine HEZ.out.mono ?_
        rintro e w2 ⟨rfl, h1, h2⟩
        have H1 := Lib.hid h1; have H2 := Lib.hid h2; clear h1 h2
        go_wp2
        go_ret
        exact ⟨rfl, _, _, H1.out, H2.out, fun e => (by cases e), fun e => (by cases e)⟩
      · rw [if_neg hl]
        have e1 : ((c.lay : Int) == 0) = false := by simp; omega
        clear hl h5 h6 hp hv
        go_enter Tryz.func37, Tryz.ntmps37
        go_wp2
        go_ret
        exact ⟨rfl, _, _, HS6.out, HS7.out, fun e => (by cases e), fun e => (by cases e)⟩
  · rw [if_neg hv0]
    have e1 : ((v : Int) == 0) = false := by simp; omega
    clear hv0 hp hv c0 f0 c10
    go_enter Tryz.func37, Tryz.ntmps37
    go_wp2_with fail
    with_reducible refine HX.out.mono ?_
    rintro e w2 ⟨rfl, h1⟩
    have H1 := Lib.hid h1; clear h1
    go_wp2
    go_ret
    exact ⟨rfl, H1.out⟩
end Go.Proofs.YtknefjigdlbacaaGreatDoor
set_option linter.unusedSimpArgs false
set_option linter.unusedVariables false
namespace Go.Proofs.YtknefjigdlbacaaGreatDoor
open Go.RowKit Go.Maps
open Ac (A)
/-- Compared: only the seek's own cells have changed. -/
def Cmps (q : Nat) (c : Sk.C) (x : Sk.S × Bool) (vc vs vr : Value) (w : World) (e : Ending) (w' : World) : Prop := e = .returned (.bool x.2) ∧ Kb w' q c x.1 vc vs vr ∧ Chg q w w'
theorem str_eq (a b : List UInt8) : ((⟨a.toArray⟩ : ByteArray) = ⟨b.toArray⟩) ↔ a = b := by
  constructor
  · intro h
    have := congrArg (fun x : ByteArray => x.data.toList) h
    simpa using this
  · intro h; rw [h]
set_option maxRecDepth 100000 in
set_option maxHeartbeats 2000000 in
theorem kcmp_any {B : Nat} {w : World} {q qr : Nat} {c : Sk.C} {s : Sk.S} {vc vs : Value} {ad : Option Addr} {cc : Nat} (h : Kb w q c s vc vs (.pointer (some ⟨qr, 0, none⟩))) (hr : Rst B w qr (s.x / 8) s.rs s.rs.length ad cc) (hw : ∀ y ∈ s.rs, y < 18446744073709551616) (hx : s.x < 18446744073709551616) (g0 : -9223372036854775808 ≤ s.g) (g1 : s.g ≤ 9223372036854775807) (hi : s.i ≤ 8) :
    Calls Tryz.prog 41 #[.pointer (some ⟨q, 0, none⟩)] w (Cmps q c (Sk.cmp c s) vc vs (.pointer (some ⟨qr, 0, none⟩)) w) := by
  have KR := rres_any hr hw
  unfold rres at KR
  have c19 := h.c19
  have HH := Lib.hid h
  unfold Sk.cmp
  by_cases hl : s.rs.length < Rd.sz s.rs
  · rw [if_pos hl]
    rw [if_pos hl] at KR
    have KR := Lib.hid KR
    clear hl h hr hw hx g0 g1 hi
    go_enter Tryz.func41, Tryz.ntmps41
    go_wp2_with fail
    with_reducible refine KR.out.mono ?_
    rintro e w1 ⟨rfl, hb⟩
    have HB := Lib.hid hb
    clear hb KR
    go_wp2
    go_ret
    exact ⟨rfl, (HH.out.below HB.out).below ((Below.refl _ w1).alloc (Nat.le_refl _) _), Tn.of_below (HB.out.trans (((Below.refl _ w1).alloc (Nat.le_refl _) _).mono HB.out.size))⟩
  · rw [if_neg hl]
    rw [if_neg hl] at KR
    have KR := Lib.hid KR
    clear hl hr hw
    have HG := Lib.hid (show -9223372036854775808 ≤ s.g ∧ s.g ≤ 9223372036854775807 ∧ s.i ≤ 8 from ⟨g0, g1, hi⟩)
    have KF := Lib.hid (fun W => freshn s.x W hx)
    clear hx g0 g1 hi h
    obtain ⟨X, hX⟩ : ∃ X : Sk.S × Bool, X = (if Rd.key s.rs = c.key then (if Sh.fr s.x then (Sk.fin s ⟨2, Sk.scell c s, s.x, Rd.val s.rs⟩, false) else (Sk.fin s ⟨4, 0, 0, []⟩, false)) else (s, true)) := ⟨_, rfl⟩
    rw [← hX]
    generalize Rd.key s.rs = k at *
    generalize Rd.val s.rs = v at *
    have HX := Lib.hid hX
    clear hX
    go_enter Tryz.func41, Tryz.ntmps41
    go_wp2_with fail
    with_reducible refine KR.out.mono ?_
    rintro e w1 ⟨rfl, hb⟩
    obtain ⟨W, hW⟩ : ∃ W, W = w1.alloc (.cells #[.string ⟨k.toArray⟩, .string ⟨v.toArray⟩] 135) := ⟨_, rfl⟩
    obtain ⟨z, hz⟩ : ∃ z, z = w1.heap.size := ⟨_, rfl⟩
    have hb2 : Below w.heap.size w W := by rw [hW]; exact hb.trans (((Below.refl _ w1).alloc (Nat.le_refl _) _).mono hb.size)
    have hzW : W.heap[z]? = some (.cells #[.string ⟨k.toArray⟩, .string ⟨v.toArray⟩] 135 (0, 0)) := by rw [hW, hz]; exact heap_alloc_new w1 _
    have d0 : W.cell? ⟨z, 0, none⟩ = some (.string ⟨k.toArray⟩) := by simp [World.cell?, hzW]
    have d1 : W.cell? ⟨z, 1, none⟩ = some (.string ⟨v.toArray⟩) := by simp [World.cell?, hzW]
    have hq := HH.out.below hb2
    have HQ := Lib.hid hq
    have d8 := hq.c8
    have hlz : q < z := by rw [hz]; have := HH.out.lt; have := hb.size; omega
    have HB2 := Lib.hid hb2
    have HL := Lib.hid hlz
    have HZW := Lib.hid hzW
    have HW := Lib.hid hW
    have HZ := Lib.hid hz
    clear hb hb2 hq hW hz hlz hzW KR
    go_wp2
    rw [← HZ.out, show w1.alloc _ = W from HW.out.symm]
    go_region
    have hwd : Below w.heap.size w W.drew := HB2.out.drew
    obtain ⟨W2, hW2⟩ : ∃ W2, W2 = W.drew := ⟨_, rfl⟩
    rw [← hW2] at hwd ⊢
    have hz2 : W2.heap[z]? = some (.cells #[.string ⟨k.toArray⟩, .string ⟨v.toArray⟩] 135 (0, 0)) := by rw [hW2]; exact HZW.out
    have HWD := Lib.hid hwd
    have HZ2 := Lib.hid hz2
    clear hwd hz2 hW2 HW HB2 HZW HQ d0 d1 d8
    by_cases hk : k = c.key
    · rw [show (!(k == c.key)) = false by rw [show (k == c.key) = true by simpa using hk]; rfl]
      have KF2 := Lib.hid (KF.out W2)
      have c16 := (HH.out.below HWD.out).c16
      have HK := Lib.hid hk
      clear hk KF
      generalize hfr : Sh.fr s.x = t at *
      cases t with
      | true =>
        have HX2 : Hid (X = (Sk.fin s ⟨2, Sk.scell c s, s.x, v⟩, false)) := Lib.hid (by rw [HX.out, if_pos HK.out, if_pos rfl])
        clear hfr HX
        go_wp2_with fail
        with_reducible refine KF2.out.mono ?_
        rintro e w3 ⟨rfl, hb3⟩
        have HB3 := Lib.hid (HWD.out.trans (hb3.mono HWD.out.size))
        have hz3 : w3.heap[z]? = some (.cells #[.string ⟨k.toArray⟩, .string ⟨v.toArray⟩] 135 (0, 0)) := (hb3.block z (Array.getElem?_eq_some_iff.1 HZ2.out).1).trans HZ2.out
        have HZ3 := Lib.hid hz3
        have KS : Hid (∀ W, Below w3.heap.size w3 W → Calls Tryz.prog 31 #[.pointer (some ⟨q, 0, none⟩)] W (Gives (.int .i64 (Sk.scell c s)) W)) := Lib.hid (fun W hb => kslot_any (HH.out.below (HB3.out.trans (hb.mono HB3.out.size))) HG.out.1 HG.out.2.1 HG.out.2.2)
        have KE : Hid (∀ W, Below w3.heap.size w3 W → Calls Tryz.prog 74 #[.pointer (some ⟨q, 0, none⟩), .agg #[.int .i64 2, .int .i64 (Sk.scell c s), .int .u64 (s.x : Int), .string ⟨v.toArray⟩]] W (Ends q c (Sk.fin s ⟨2, Sk.scell c s, s.x, v⟩) vc vs (.pointer (some ⟨qr, 0, none⟩)) (.tuple #[]) W)) := Lib.hid (fun W hb => kend_any (HH.out.below (HB3.out.trans (hb.mono HB3.out.size))) 2 (Sk.scell c s) s.x ⟨v.toArray⟩)
        have HS3 : Hid (∀ W, Below w3.heap.size w3 W → W.cell? ⟨q, 16, none⟩ = some (.int .u64 (s.x : Int)) ∧ W.cell? ⟨z, 1, none⟩ = some (.string ⟨v.toArray⟩)) := Lib.hid (fun W hb => by
          have e3 := (hb.block z (Array.getElem?_eq_some_iff.1 HZ3.out).1).trans HZ3.out
          exact ⟨(HH.out.below (HB3.out.trans (hb.mono HB3.out.size))).c16, by simp [World.cell?, e3]⟩)
        clear hb3 hz3 KF2 c16
        generalize Sk.scell c s = sc at *
        go_wp2
        refine wp_region_held_drew (S := fun w' => w'.cell? ⟨q, 16, none⟩ = some (.int .u64 (s.x : Int)) ∧ w'.cell? ⟨z, 1, none⟩ = some (.string ⟨v.toArray⟩)) (by kernel_rfl) (HS3.out _ (Below.refl _ w3).drew) (fun hS => ?_)
        refine wpAnyH_take (i := 0) (v := .pointer (some ⟨q, 0, none⟩)) rfl (by kernel_rfl) (by kernel_rfl) (by kernel_rfl) (fun _ _ _ h => h) (Or.inl ⟨by kernel_rfl, fun w hS => by kernel_rfl⟩) hS ?_
        refine wpAnyH_take (i := 1) (v := .pointer (some ⟨q, 0, none⟩)) rfl (by kernel_rfl) (by kernel_rfl) (by kernel_rfl) (fun _ _ _ h => h) (Or.inl ⟨by kernel_rfl, fun w hS => by kernel_rfl⟩) hS ?_
        refine wpAnyH_take (i := 3) (v := .pointer (some ⟨q, 0, none⟩)) rfl (by kernel_rfl) (by kernel_rfl) (by kernel_rfl) (fun _ _ _ h => h) (Or.inl ⟨by kernel_rfl, fun w hS => by kernel_rfl⟩) hS ?_
        refine wpAnyH_take (i := 4) (v := .pointer (some ⟨q, 0, none⟩)) rfl (by kernel_rfl) (by kernel_rfl) (by kernel_rfl) (fun _ _ _ h => h) (Or.inl ⟨by kernel_rfl, fun w hS => by kernel_rfl⟩) hS ?_
        refine wpAnyH_take (i := 5) (v := .pointer (some ⟨q, 16, none⟩)) rfl (by kernel_rfl) (by kernel_rfl) (by kernel_rfl) (fun _ _ _ h => h) (Or.inl ⟨by kernel_rfl, fun w hS => by kernel_rfl⟩) hS ?_
        refine wpAnyH_take (i := 6) (v := .int .u64 (s.x : Int)) rfl (by kernel_rfl) (by kernel_rfl) (by kernel_rfl) (fun _ _ _ h => h) (Or.inl ⟨by kernel_rfl, fun w hS => by obtain ⟨s1, s2⟩ := hS; go_simp⟩) hS ?_
        refine wpAnyH_take (i := 7) (v := .pointer (some ⟨z, 1, none⟩)) rfl (by kernel_rfl) (by kernel_rfl) (by kernel_rfl) (fun _ _ _ h => h) (Or.inl ⟨by kernel_rfl, fun w hS => by kernel_rfl⟩) hS ?_
        refine wpAnyH_take (i := 8) (v := .string ⟨v.toArray⟩) rfl (by kernel_rfl) (by kernel_rfl) (by kernel_rfl) (fun _ _ _ h => h) (Or.inl ⟨by kernel_rfl, fun w hS => by obtain ⟨s1, s2⟩ := hS; go_simp⟩) hS ?_
        refine wpAnyH_ready (rs := [2]) (by kernel_rfl) (by simp) ?_
        refine AllReadyH.cons rfl (fun K hK => ?_) AllReadyH.nil
        go_simp
        go_at_call 31
        refine (KS.out _ (Below.refl _ w3).drew).mono ?_
        rintro e w4 ⟨rfl, hb4⟩
        have HB4 := Lib.hid (show Below w3.heap.size w3 w4 from (Below.refl _ w3).drew.trans (hb4.mono (Below.refl w3.heap.size w3).drew.size))
        clear hb4
        refine hK.out _ _ (HS3.out _ HB4.out) (fun hS => ?_)
        clear hK K
        refine wpAnyH_take (i := 9) (v := .agg #[.int .i64 2, .int .i64 sc, .int .u64 (s.x : Int), .string ⟨v.toArray⟩]) rfl (by kernel_rfl) (by kernel_rfl) (by kernel_rfl) (fun _ _ _ h => h) (Or.inl ⟨by kernel_rfl, fun w hS => by kernel_rfl⟩) hS ?_
        refine wpAnyH_ready (rs := [10]) (by kernel_rfl) (by simp) ?_
        refine AllReadyH.cons rfl (fun K hK => ?_) AllReadyH.nil
        go_simp
        go_at_call 74
        refine (KE.out _ HB4.out).mono ?_
        rintro e w5 ⟨rfl, h1, h2⟩
        have H1 := Lib.hid h1; have H2 := Lib.hid h2
        have e5 := (h2.block z (Nat.lt_of_lt_of_le (Array.getElem?_eq_some_iff.1 HZ3.out).1 HB4.out.size) (by have := HL.out; omega)).trans ((HB4.out.block z (Array.getElem?_eq_some_iff.1 HZ3.out).1).trans HZ3.out)
        refine hK.out _ _ ⟨h1.c16, by simp [World.cell?, e5]⟩ (fun hS => ?_)
        clear h1 h2 e5
        clear hK K
        refine wpAnyH_done (by kernel_rfl) ?_ _
        clear hS
        go_wp2
        go_ret
        rw [HX2.out]
        refine ⟨rfl, H1.out, (show Chg q w w4 from Tn.of_below (HB3.out.trans (HB4.out.mono HB3.out.size))).trans H2.out⟩
      | false =>
        have HX2 : Hid (X = (Sk.fin s ⟨4, 0, 0, []⟩, false)) := Lib.hid (by rw [HX.out, if_pos HK.out, if_neg (by simp)])
        clear hfr HX
        go_wp2_with fail
        with_reducible refine KF2.out.mono ?_
        rintro e w3 ⟨rfl, hb3⟩
        have HB3 := Lib.hid (HWD.out.trans (hb3.mono HWD.out.size))
        have KE : Hid (Calls Tryz.prog 74 #[.pointer (some ⟨q, 0, none⟩), .agg #[.int .i64 4, .int .i64 0, .int .u64 0, .string ⟨#[]⟩]] w3 (Ends q c (Sk.fin s ⟨4, 0, 0, []⟩) vc vs (.pointer (some ⟨qr, 0, none⟩)) (.tuple #[]) w3)) := Lib.hid (kend_z (HH.out.below HB3.out) 4)
        clear hb3 KF2 c16
        go_wp2_with fail
        with_reducible refine KE.out.mono ?_
        rintro e w4 ⟨rfl, h1, h2⟩
        have H1 := Lib.hid h1; have H2 := Lib.hid ((show Chg q w w3 from Tn.of_below HB3.out).trans h2); clear h1 h2
        go_wp2
        go_ret
        rw [HX2.out]
        exact ⟨rfl, H1.out, H2.out⟩
    · rw [show (!(k == c.key)) = true by rw [show (k == c.key) = false by simpa using hk]; rfl]
      have HX2 : Hid (X = (s, true)) := Lib.hid (by rw [HX.out, if_neg hk])
      clear hk HX
      go_wp2
      go_ret
      rw [HX2.out]
      exact ⟨rfl, HH.out.below HWD.out, Tn.of_below HWD.out⟩
end Go.Proofs.YtknefjigdlbacaaGreatDoor
