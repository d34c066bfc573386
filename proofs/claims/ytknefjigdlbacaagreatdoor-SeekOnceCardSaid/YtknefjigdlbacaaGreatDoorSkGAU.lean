/-
  Several texts in one: The walks of toGroup, free, goOn: what leads a seek from a place on; The walks of free and goOn: what leads a seek from a place on. By an AI agent.
-/
import Derived.Test.YtknefjigdlbacaaGreatDoorSkGAT
set_option linter.unusedSimpArgs false
set_option linter.unusedVariables false
namespace Go.Proofs.YtknefjigdlbacaaGreatDoor
open Go.RowKit Go.Maps
open Ac (A)
theorem kend_z {w : World} {q : Nat} {c : Sk.C} {s : Sk.S} {vc vs vr : Value} (h : Kb w q c s vc vs vr) (k : Nat) :
    Calls Tryz.prog 74 #[.pointer (some ⟨q, 0, none⟩), .agg #[.int .i64 (k : Int), .int .i64 0, .int .u64 0, .string ⟨#[]⟩]] w (Ends q c (Sk.fin s ⟨k, 0, 0, []⟩) vc vs vr (.tuple #[]) w) := kend_any h k 0 0 ⟨#[]⟩
set_option maxHeartbeats 1000000 in
theorem kboxless_any {w : World} {q : Nat} {c : Sk.C} {s : Sk.S} {vc vs vr : Value} (h : Kb w q c s vc vs vr) (v : Nat) :
    Calls Tryz.prog 92 #[.pointer (some ⟨q, 0, none⟩), .int .u64 (v : Int)] w (Ends q c (if v = 5 then Sk.fin s ⟨4, 0, 0, []⟩ else s) vc vs vr (.bool (decide (v ≠ 5))) w) := by
  have HK := Lib.hid (fun W => tgmake_any 0 5 W (by omega) (by omega) (by omega) (by omega))
  rw [show Tg.mk 0 5 = 5 from rfl] at HK
  have HE := Lib.hid (fun (n : Nat) (x : Int) (hx : (n : Int) = x) => (hx ▸ kend_z h n : Calls Tryz.prog 74 #[.pointer (some ⟨q, 0, none⟩), .agg #[.int .i64 x, .int .i64 0, .int .u64 0, .string ⟨#[]⟩]] w (Ends q c (Sk.fin s ⟨n, 0, 0, []⟩) vc vs vr (.tuple #[]) w)))
  have HH := Lib.hid h
  clear h
  by_cases hv : v = 5
  · rw [if_pos hv, hv]
    clear hv
    have KE := Lib.hid (HE.out 4 4 rfl); clear HE
    go_enter Tryz.func92, Tryz.ntmps92
    go_wp2_with fail
    with_reducible refine (HK.out _).mono ?_
    rintro e w1 ⟨rfl, rfl⟩
    go_wp2_with fail
    with_reducible refine KE.out.mono ?_
    rintro e w1 ⟨rfl, h1, h2⟩
    have H1 := Lib.hid h1; have H2 := Lib.hid h2; clear h1 h2
    go_wp2
    go_ret
    exact ⟨rfl, H1.out, H2.out⟩
  · rw [if_neg hv, decide_eq_true (show v ≠ 5 from hv)]
    have e1 : ((v : Int) == 5) = false := by simp; omega
    have HV := Lib.hid hv
    clear hv
    go_enter Tryz.func92, Tryz.ntmps92
    go_wp2_with fail
    with_reducible refine (HK.out _).mono ?_
    rintro e w1 ⟨rfl, rfl⟩
    go_wp2
    go_ret
    exact ⟨rfl, HH.out, Chg.refl q w⟩
set_option maxRecDepth 100000 in
set_option maxHeartbeats 2000000 in
theorem ktoG_any {w : World} {q : Nat} {c : Sk.C} {s : Sk.S} {vc vs vr : Value} (h : Kb w q c s vc vs vr) (n : Nat) (hh : c.h < 18446744073709551616) :
    Calls Tryz.prog 22 #[.pointer (some ⟨q, 0, none⟩), .int .i64 (n : Int)] w (Ends q c (Sk.toG c s n) vc vs vr (.tuple #[]) w) := by
  have HG := Lib.hid (fun W => group_any c.h (by omega) c.lg n W)
  have c9 := (h.below (Below.refl _ w).drew).c9
  have c7 := (h.below (Below.refl _ w).drew).c7
  have HH := Lib.hid h
  have HL := Lib.hid h.lt
  obtain ⟨s1, hs1⟩ : ∃ s1 : Sk.S, s1 = { s with n := n, g := Rt.gp c.h c.lg n } := ⟨_, rfl⟩
  have HS : Hid (∀ W, Below w.heap.size w.drew W → (∃ s' a b d, Kb W q c s' a b d) ∧ (∃ s' a b d, Kb (W.setCell ⟨q, 12, none⟩ (.int .i64 (n : Int))) q c s' a b d) ∧ Kb ((W.setCell ⟨q, 12, none⟩ (.int .i64 (n : Int))).setCell ⟨q, 13, none⟩ (.int .i64 (Rt.gp c.h c.lg n))) q c s1 vc vs vr ∧ Chg q w ((W.setCell ⟨q, 12, none⟩ (.int .i64 (n : Int))).setCell ⟨q, 13, none⟩ (.int .i64 (Rt.gp c.h c.lg n)))) := Lib.hid (fun W hb => by
    have hb2 : Below w.heap.size w W := (Below.refl _ w).drew.trans hb
    have h0 := h.below hb2
    have h1 := h0.st (s' := { s with n := n }) (vc' := vc) (vs' := vs) (vr' := vr) 12 (.int .i64 (n : Int)) rfl
    have h2 := h1.st (s' := s1) (vc' := vc) (vs' := vs) (vr' := vr) 13 (.int .i64 (Rt.gp c.h c.lg n)) (by rw [hs1]; rfl)
    exact ⟨⟨_, _, _, _, h0⟩, ⟨_, _, _, _, h1⟩, h2, ((show Chg q w W from Tn.of_below hb2).set 12 _ h0.lt).set 13 _ h1.lt⟩)
  have HF : Hid (∀ W, Below w.heap.size w.drew W → (W.frozen? ⟨q, 12, none⟩ = false ∧ W.frozen? ⟨q, 13, none⟩ = false) ∧ W.cell? ⟨q, 12, none⟩ = some (.int .i64 (s.n : Int)) ∧ W.cell? ⟨q, 13, none⟩ = some (.int .i64 s.g)) := Lib.hid (fun W hb => by
    have h0 := h.below ((Below.refl _ w).drew.trans hb)
    exact ⟨⟨h0.fz _, h0.fz _⟩, h0.c12, h0.c13⟩)
  have HT : Hid (Sk.toG c s n = if 0 ≤ Rt.gp c.h c.lg n then { s1 with p := 1 } else if c.lay = 0 then Sk.fin s1 ⟨1, 0, 0, []⟩ else Sk.fin s1 ⟨5, 0, 0, []⟩) := Lib.hid (by rw [hs1]; rfl)
  have hg1 : s1.g = Rt.gp c.h c.lg n := by rw [hs1]
  generalize Sk.toG c s n = r at *
  generalize hgg : Rt.gp c.h c.lg n = g at *
  clear h hs1 hh hgg
  go_enter Tryz.func22, Tryz.ntmps22
  go_wp2
  refine wp_region_held_drew (S := fun w' => ∃ s' a b d, Kb w' q c s' a b d) (by kernel_rfl) ⟨_, _, _, _, HH.out.below (Below.refl _ w).drew⟩ (fun hS => ?_)
  refine wpAnyH_take (i := 0) (v := .pointer (some ⟨q, 0, none⟩)) rfl (by kernel_rfl) (by kernel_rfl) (by kernel_rfl) (fun _ _ _ h => h) (Or.inl ⟨by kernel_rfl, fun w hS => by kernel_rfl⟩) hS ?_
  refine wpAnyH_take (i := 1) (v := .pointer (some ⟨q, 0, none⟩)) rfl (by kernel_rfl) (by kernel_rfl) (by kernel_rfl) (fun _ _ _ h => h) (Or.inl ⟨by kernel_rfl, fun w hS => by kernel_rfl⟩) hS ?_
  refine wpAnyH_take (i := 2) (v := .int .i64 (n : Int)) rfl (by kernel_rfl) (by kernel_rfl) (by kernel_rfl) (fun _ _ _ h => h) (Or.inl ⟨by kernel_rfl, fun w hS => by kernel_rfl⟩) hS ?_
  refine wpAnyH_take (i := 3) (v := .pointer (some ⟨q, 0, none⟩)) rfl (by kernel_rfl) (by kernel_rfl) (by kernel_rfl) (fun _ _ _ h => h) (Or.inl ⟨by kernel_rfl, fun w hS => by kernel_rfl⟩) hS ?_
  refine wpAnyH_take (i := 4) (v := .pointer (some ⟨q, 0, none⟩)) rfl (by kernel_rfl) (by kernel_rfl) (by kernel_rfl) (fun _ _ _ h => h) (Or.inl ⟨by kernel_rfl, fun w hS => by kernel_rfl⟩) hS ?_
  refine wpAnyH_take (i := 5) (v := .pointer (some ⟨q, 9, none⟩)) rfl (by kernel_rfl) (by kernel_rfl) (by kernel_rfl) (fun _ _ _ h => h) (Or.inl ⟨by kernel_rfl, fun w hS => by kernel_rfl⟩) hS ?_
  refine wpAnyH_take (i := 6) (v := .int .u64 (c.h : Int)) rfl (by kernel_rfl) (by kernel_rfl) (by kernel_rfl) (fun _ _ _ h => h) (Or.inl ⟨by kernel_rfl, fun w hS => by obtain ⟨s', _, _, _, hk⟩ := hS; have k9 := hk.c9; have k7 := hk.c7; go_simp⟩) hS ?_
  refine wpAnyH_take (i := 7) (v := .pointer (some ⟨q, 0, none⟩)) rfl (by kernel_rfl) (by kernel_rfl) (by kernel_rfl) (fun _ _ _ h => h) (Or.inl ⟨by kernel_rfl, fun w hS => by kernel_rfl⟩) hS ?_
  refine wpAnyH_take (i := 8) (v := .pointer (some ⟨q, 0, none⟩)) rfl (by kernel_rfl) (by kernel_rfl) (by kernel_rfl) (fun _ _ _ h => h) (Or.inl ⟨by kernel_rfl, fun w hS => by kernel_rfl⟩) hS ?_
  refine wpAnyH_take (i := 9) (v := .pointer (some ⟨q, 6, none⟩)) rfl (by kernel_rfl) (by kernel_rfl) (by kernel_rfl) (fun _ _ _ h => h) (Or.inl ⟨by kernel_rfl, fun w hS => by kernel_rfl⟩) hS ?_
  refine wpAnyH_take (i := 10) (v := .pointer (some ⟨q, 7, none⟩)) rfl (by kernel_rfl) (by kernel_rfl) (by kernel_rfl) (fun _ _ _ h => h) (Or.inl ⟨by kernel_rfl, fun w hS => by kernel_rfl⟩) hS ?_
  refine wpAnyH_take (i := 11) (v := .int .i64 c.lg) rfl (by kernel_rfl) (by kernel_rfl) (by kernel_rfl) (fun _ _ _ h => h) (Or.inl ⟨by kernel_rfl, fun w hS => by obtain ⟨s', _, _, _, hk⟩ := hS; have k9 := hk.c9; have k7 := hk.c7; go_simp⟩) hS ?_
  refine wpAnyH_take (i := 12) (v := .int .i64 (n : Int)) rfl (by kernel_rfl) (by kernel_rfl) (by kernel_rfl) (fun _ _ _ h => h) (Or.inl ⟨by kernel_rfl, fun w hS => by kernel_rfl⟩) hS ?_
  refine wpAnyH_ready (rs := [13]) (by kernel_rfl) (by simp) ?_
  refine AllReadyH.cons rfl (fun K hK => ?_) AllReadyH.nil
  go_simp
  go_at_call 73
  refine (HG.out _).mono ?_
  rintro e w1 ⟨rfl, hb1⟩
  obtain ⟨⟨F1, F2⟩, F3, F4⟩ := HF.out w1 hb1
  obtain ⟨A1, A2, A3⟩ := HS.out w1 hb1
  have HA1 := Lib.hid A1; have HA2 := Lib.hid A2; have HA3 := Lib.hid A3
  clear A1 A2 A3 hb1
  refine hK.out _ _ (HA1.out) (fun hS => ?_)
  clear hK K
  refine wpAnyH_take (i := 14) (v := .pointer (some ⟨q, 0, none⟩)) rfl (by kernel_rfl) (by kernel_rfl) (by kernel_rfl) (fun _ _ _ h => h) (Or.inl ⟨by kernel_rfl, fun w hS => by kernel_rfl⟩) hS ?_
  refine wpAnyH_take (i := 15) (v := .pointer (some ⟨q, 12, none⟩)) rfl (by kernel_rfl) (by kernel_rfl) (by kernel_rfl) (fun _ _ _ h => h) (Or.inl ⟨by kernel_rfl, fun w hS => by kernel_rfl⟩) hS ?_
  refine wpAnyH_ready (rs := [16]) (by kernel_rfl) (by simp) ?_
  refine AllReadyH.cons rfl (fun K hK => ?_) AllReadyH.nil
  go_simp
  refine hK.out _ _ HA2.out (fun hS => ?_)
  clear hK K
  refine wpAnyH_take (i := 17) (v := .pointer (some ⟨q, 0, none⟩)) rfl (by kernel_rfl) (by kernel_rfl) (by kernel_rfl) (fun _ _ _ h => h) (Or.inl ⟨by kernel_rfl, fun w hS => by kernel_rfl⟩) hS ?_
  refine wpAnyH_take (i := 18) (v := .pointer (some ⟨q, 13, none⟩)) rfl (by kernel_rfl) (by kernel_rfl) (by kernel_rfl) (fun _ _ _ h => h) (Or.inl ⟨by kernel_rfl, fun w hS => by kernel_rfl⟩) hS ?_
  refine wpAnyH_ready (rs := [19]) (by kernel_rfl) (by simp) ?_
  refine AllReadyH.cons rfl (fun K hK => ?_) AllReadyH.nil
  go_simp
  refine hK.out _ _ ⟨_, _, _, _, HA3.out.1⟩ (fun hS => ?_)
  clear hK K
  refine wpAnyH_done (by kernel_rfl) ?_ _
  have c13 := HA3.out.1.c13
  have c10 := HA3.out.1.c10
  have f0 := HA3.out.1.fz 0
  have c0 := HA3.out.1.c0
  rw [hg1] at c13
  obtain ⟨W, hW⟩ : ∃ W, W = (w1.setCell ⟨q, 12, none⟩ (.int .i64 (n : Int))).setCell ⟨q, 13, none⟩ (.int .i64 g) := ⟨_, rfl⟩
  rw [← hW] at HA3 c13 c10 f0 c0 ⊢
  clear hW F1 F2 F3 F4 HA1 HA2 hS HS HF HH HG c9 c7
  have HE := Lib.hid (fun (n : Nat) (x : Int) (hx : (n : Int) = x) => (hx ▸ kend_z HA3.out.1 n : Calls Tryz.prog 74 #[.pointer (some ⟨q, 0, none⟩), .agg #[.int .i64 x, .int .i64 0, .int .u64 0, .string ⟨#[]⟩]] W (Ends q c (Sk.fin s1 ⟨n, 0, 0, []⟩) vc vs vr (.tuple #[]) W)))
  by_cases hg : 0 ≤ g
  · have HT1 := HT.out
    rw [if_pos hg] at HT1
    have HR := Lib.hid HT1
    have K1 := Lib.hid (HA3.out.1.st (s' := { s1 with p := 1 }) (vc' := vc) (vs' := vs) (vr' := vr) 0 (.int .i64 1) rfl)
    have K2 := Lib.hid (HA3.out.2.set 0 (.int .i64 1) HA3.out.1.lt)
    clear HT1 HT HE
    go_wp2
    refine bodyPost_end (results_none rfl _ _ _) rfl ?_
    exact ⟨rfl, by rw [HR.out]; exact K1.out, K2.out⟩
  · have HT1 := HT.out
    rw [if_neg hg] at HT1
    by_cases hl : c.lay = 0
    · rw [if_pos hl] at HT1
      have HR := Lib.hid HT1
      have e1 : ((c.lay : Int) == 0) = true := by simp; omega
      have KE := Lib.hid (HE.out 1 1 rfl)
      clear HT1 HT HE hl
      go_wp2_with fail
      with_reducible refine KE.out.mono ?_
      rintro e w2 ⟨rfl, h1, h2⟩
      have H1 := Lib.hid h1; have H2 := Lib.hid (HA3.out.2.trans h2); clear h1 h2
      go_wp2
      refine bodyPost_end (results_none rfl _ _ _) rfl ?_
      exact ⟨rfl, by rw [HR.out]; exact H1.out, H2.out⟩
    · rw [if_neg hl] at HT1
      have HR := Lib.hid HT1
      have e1 : ((c.lay : Int) == 0) = false := by simp; omega
      have KE := Lib.hid (HE.out 5 5 rfl)
      clear HT1 HT HE hl
      go_wp2_with fail
      with_reducible refine KE.out.mono ?_
      rintro e w2 ⟨rfl, h1, h2⟩
      have H1 := Lib.hid h1; have H2 := Lib.hid (HA3.out.2.trans h2); clear h1 h2
      go_wp2
      refine bodyPost_end (results_none rfl _ _ _) rfl ?_
      exact ⟨rfl, by rw [HR.out]; exact H1.out, H2.out⟩
end Go.Proofs.YtknefjigdlbacaaGreatDoor
set_option linter.unusedSimpArgs false
set_option linter.unusedVariables false
namespace Go.Proofs.YtknefjigdlbacaaGreatDoor
open Go.RowKit Go.Maps
open Ac (A)
/-- The crowd's pointer leads to a new crowd. -/
def Cq (B : Nat) (v : Value) (w : World) (c : Sk.C) : Prop := ∃ qc, v = .pointer (some ⟨qc, 0, none⟩) ∧ B ≤ qc ∧ Cb w qc c.b c.lg []
/-- Led on: the seek's own cells have changed, and there may be a new crowd. -/
def Leads (q : Nat) (c : Sk.C) (s : Sk.S) (vs vr : Value) (v : Value) (w : World) (e : Ending) (w' : World) : Prop := e = .returned v ∧ ∃ vc, Kb w' q c s vc vs vr ∧ Chg q w w' ∧ (s.p = 2 → s.cs = [] ∧ Cq w.heap.size vc w' c)
theorem toG_p (c : Sk.C) (s : Sk.S) (n : Nat) : (Sk.toG c s n).p ≠ 2 := by
  unfold Sk.toG Sk.fin
  split
  · simp
  · split <;> simp
set_option maxRecDepth 100000 in
set_option maxHeartbeats 2000000 in
theorem kfree_any {w : World} {q : Nat} {c : Sk.C} {s : Sk.S} {vc vs vr : Value} (h : Kb w q c s vc vs vr) :
    Calls Tryz.prog 98 #[.pointer (some ⟨q, 0, none⟩)] w (Leads q c (Sk.free c s) vs vr (.tuple #[]) w) := by
  have HE := Lib.hid (fun (n : Nat) (x : Int) (hx : (n : Int) = x) => (hx ▸ kend_z h n : Calls Tryz.prog 74 #[.pointer (some ⟨q, 0, none⟩), .agg #[.int .i64 x, .int .i64 0, .int .u64 0, .string ⟨#[]⟩]] w (Ends q c (Sk.fin s ⟨n, 0, 0, []⟩) vc vs vr (.tuple #[]) w)))
  have c10 := h.c10
  have c11 := h.c11
  have HH := Lib.hid h
  unfold Sk.free
  by_cases hl : c.lay = 0
  · rw [if_pos hl]
    have e1 : ((c.lay : Int) == 0) = true := by simp; omega
    have KE := Lib.hid (HE.out 1 1 rfl)
    clear HE hl h c11
    go_enter Tryz.func98, Tryz.ntmps98
    go_wp2_with fail
    with_reducible refine KE.out.mono ?_
    rintro e w2 ⟨rfl, h1, h2⟩
    have H1 := Lib.hid h1; have H2 := Lib.hid h2; clear h1 h2
    go_wp2
    refine bodyPost_end (results_none rfl _ _ _) rfl ?_
    exact ⟨rfl, vc, H1.out, H2.out, fun e => by cases e⟩
  · rw [if_neg hl]
    have e1 : ((c.lay : Int) == 0) = false := by simp; omega
    clear hl HE
    by_cases hk : s.chk = true
    · rw [hk] at c11
      rw [if_pos hk]
      have c6 := h.c6
      have c7 := h.c7
      have KN := Lib.hid (cnew_any c.b c.lg w)
      have HC := Lib.hid hk
      clear h hk
      go_enter Tryz.func98, Tryz.ntmps98
      go_wp2_with fail
      with_reducible refine KN.out.mono ?_
      rintro e w1 ⟨qc, rfl, hq, hcb, hb⟩
      have h0 := HH.out.below hb
      have HB := Lib.hid hb
      have c11' := h0.c11
      have c0 := h0.c0
      have c17 := h0.c17
      have f11 := h0.fz 11
      have f0 := h0.fz 0
      have f17 := h0.fz 17
      have h1 := h0.st (s' := { s with chk := false }) (vc' := vc) (vs' := vs) (vr' := vr) 11 (.bool false) rfl
      have h2 := h1.st (s' := { s with chk := false, p := 2 }) (vc' := vc) (vs' := vs) (vr' := vr) 0 (.int .i64 2) rfl
      have h3 := h2.st (s' := { s with chk := false, p := 2, cs := [] }) (vc' := .pointer (some ⟨qc, 0, none⟩)) (vs' := vs) (vr' := vr) 17 (.pointer (some ⟨qc, 0, none⟩)) rfl
      have hch := (((show Chg q w w1 from Tn.of_below hb).set 11 (.bool false) h0.lt).set 0 (.int .i64 2) h1.lt).set 17 (.pointer (some ⟨qc, 0, none⟩)) h2.lt
      have hne : q ≠ qc := by have := HH.out.lt; omega
      have hcb2 : Cb (((w1.setCell ⟨q, 11, none⟩ (.bool false)).setCell ⟨q, 0, none⟩ (.int .i64 2)).setCell ⟨q, 17, none⟩ (.pointer (some ⟨qc, 0, none⟩))) qc c.b c.lg [] := hcb.keep ((Below.heap_setCell _ _ _ _ (by simp only; omega)).trans ((Below.heap_setCell _ _ _ _ (by simp only; omega)).trans (Below.heap_setCell _ _ _ _ (by simp only; omega))))
      have H3 := Lib.hid h3; have HCH := Lib.hid hch; have HCB := Lib.hid hcb2; have HQ := Lib.hid hq
      clear h0 h1 h2 h3 hch hcb2 hcb hb hq hne c11 c10 c6 c7 KN
      go_wp2
      refine bodyPost_end (results_none rfl _ _ _) rfl ?_
      exact ⟨rfl, _, H3.out, HCH.out, fun _ => ⟨rfl, qc, rfl, HQ.out, HCB.out⟩⟩
    · rw [show s.chk = false by simpa using hk] at c11
      rw [if_neg hk]
      have c0 := h.c0
      have f0 := h.fz 0
      have H1 := Lib.hid (h.st (s' := { s with p := 3 }) (vc' := vc) (vs' := vs) (vr' := vr) 0 (.int .i64 3) rfl)
      have H2 := Lib.hid ((Chg.refl q w).set 0 (.int .i64 3) h.lt)
      clear h hk
      go_enter Tryz.func98, Tryz.ntmps98
      go_wp2
      refine bodyPost_end (results_none rfl _ _ _) rfl ?_
      exact ⟨rfl, vc, H1.out, H2.out, fun e => by cases e⟩
set_option maxRecDepth 100000 in
set_option maxHeartbeats 2000000 in
theorem kgoOn_any {w : World} {q : Nat} {c : Sk.C} {s : Sk.S} {vc vs vr : Value} (h : Kb w q c s vc vs vr) (hh : c.h < 18446744073709551616) (hw : s.w < 18446744073709551616) (hn : s.n ≤ 1000) :
    Calls Tryz.prog 42 #[.pointer (some ⟨q, 0, none⟩)] w (Leads q c (Sk.goOn c s) vs vr (.tuple #[]) w) := by
  have HC := Lib.hid (fun W => claim_any (c.h : Int) W (by omega) (by omega))
  have HN := Lib.hid (fun W => ctnext_any (s.w : Int) (s.i : Int) (Sk.cl c) W (by omega) (by omega))
  rw [← Sk.nxp_nat] at HN
  have hk := Ct.cls_bd (s.w : Int) (Ct.nxp s.w s.i (Sk.cl c)) (Sk.cl c)
  have hcb : 0 ≤ Ct.nxc s.w s.i (Sk.cl c) ∧ Ct.nxc s.w s.i (Sk.cl c) ≤ 3 := by unfold Ct.nxc; split <;> omega
  obtain ⟨s1, hs1⟩ : ∃ s1 : Sk.S, s1 = { s with i := (Ct.nxp s.w s.i (Sk.cl c)).toNat } := ⟨_, rfl⟩
  have HG : Hid (Sk.goOn c s = if Ct.nxc s.w s.i (Sk.cl c) = 1 then Sk.free c s1 else if Ct.nxc s.w s.i (Sk.cl c) = 2 then Sk.fin s1 ⟨4, 0, 0, []⟩ else if Ct.nxc s.w s.i (Sk.cl c) = 3 then { s1 with p := 5 } else Sk.toG c s1 (s.n + 1)) := Lib.hid (by rw [hs1]; rfl)
  have HS : Hid (Kb (w.drew.setCell ⟨q, 14, none⟩ (.int .i64 ((Ct.nxp s.w s.i (Sk.cl c)).toNat : Int))) q c s1 vc vs vr ∧ Chg q w (w.drew.setCell ⟨q, 14, none⟩ (.int .i64 ((Ct.nxp s.w s.i (Sk.cl c)).toNat : Int))) ∧ (w.drew.setCell ⟨q, 14, none⟩ (.int .i64 ((Ct.nxp s.w s.i (Sk.cl c)).toNat : Int))).heap.size = w.heap.size) := Lib.hid (by
    have h0 := h.below (Below.refl _ w).drew
    exact ⟨h0.st (s' := s1) (vc' := vc) (vs' := vs) (vr' := vr) 14 _ (by rw [hs1]; rfl), (show Chg q w w.drew from Tn.of_below (Below.refl _ w).drew).set 14 _ h0.lt, by rw [World.size_setCell]; rfl⟩)
  have hsn : s1.n = s.n := by rw [hs1]
  unfold Sk.cl at HN HG HS hcb
  have h0 := h.below (Below.refl _ w).drew
  have HH := Lib.hid h0
  have b0 := h.c0
  have b12 := h.c12
  have j0 := h.fz 0
  generalize Sk.goOn c s = r at *
  generalize 128 + (c.h : Int) % 128 = kl at *
  generalize (Ct.nxp s.w s.i kl).toNat = np at *
  generalize Ct.nxc s.w s.i kl = k at *
  have HT := Lib.hid hh
  clear h h0 hs1 hh hw hk
  go_enter Tryz.func42, Tryz.ntmps42
  go_wp2
  refine wp_region_held_drew (S := fun w' => Kb w' q c s vc vs vr) (by kernel_rfl) HH.out (fun hS => ?_)
  refine wpAnyH_take (i := 0) (v := .pointer (some ⟨q, 0, none⟩)) rfl (by kernel_rfl) (by kernel_rfl) (by kernel_rfl) (fun _ _ _ h => h) (Or.inl ⟨by kernel_rfl, fun w hS => by kernel_rfl⟩) hS ?_
  refine wpAnyH_take (i := 1) (v := .pointer (some ⟨q, 0, none⟩)) rfl (by kernel_rfl) (by kernel_rfl) (by kernel_rfl) (fun _ _ _ h => h) (Or.inl ⟨by kernel_rfl, fun w hS => by kernel_rfl⟩) hS ?_
  refine wpAnyH_take (i := 2) (v := .pointer (some ⟨q, 15, none⟩)) rfl (by kernel_rfl) (by kernel_rfl) (by kernel_rfl) (fun _ _ _ h => h) (Or.inl ⟨by kernel_rfl, fun w hS => by kernel_rfl⟩) hS ?_
  refine wpAnyH_take (i := 3) (v := .int .u64 (s.w : Int)) rfl (by kernel_rfl) (by kernel_rfl) (by kernel_rfl) (fun _ _ _ h => h) (Or.inl ⟨by kernel_rfl, fun w hS => by have k15 := hS.c15; have k14 := hS.c14; have k9 := hS.c9; go_simp⟩) hS ?_
  refine wpAnyH_take (i := 4) (v := .pointer (some ⟨q, 0, none⟩)) rfl (by kernel_rfl) (by kernel_rfl) (by kernel_rfl) (fun _ _ _ h => h) (Or.inl ⟨by kernel_rfl, fun w hS => by kernel_rfl⟩) hS ?_
  refine wpAnyH_take (i := 5) (v := .pointer (some ⟨q, 0, none⟩)) rfl (by kernel_rfl) (by kernel_rfl) (by kernel_rfl) (fun _ _ _ h => h) (Or.inl ⟨by kernel_rfl, fun w hS => by kernel_rfl⟩) hS ?_
  refine wpAnyH_take (i := 6) (v := .pointer (some ⟨q, 14, none⟩)) rfl (by kernel_rfl) (by kernel_rfl) (by kernel_rfl) (fun _ _ _ h => h) (Or.inl ⟨by kernel_rfl, fun w hS => by kernel_rfl⟩) hS ?_
  refine wpAnyH_take (i := 7) (v := .int .i64 (s.i : Int)) rfl (by kernel_rfl) (by kernel_rfl) (by kernel_rfl) (fun _ _ _ h => h) (Or.inl ⟨by kernel_rfl, fun w hS => by have k15 := hS.c15; have k14 := hS.c14; have k9 := hS.c9; go_simp⟩) hS ?_
  refine wpAnyH_take (i := 8) (v := .pointer (some ⟨q, 0, none⟩)) rfl (by kernel_rfl) (by kernel_rfl) (by kernel_rfl) (fun _ _ _ h => h) (Or.inl ⟨by kernel_rfl, fun w hS => by kernel_rfl⟩) hS ?_
  refine wpAnyH_take (i := 9) (v := .pointer (some ⟨q, 0, none⟩)) rfl (by kernel_rfl) (by kernel_rfl) (by kernel_rfl) (fun _ _ _ h => h) (Or.inl ⟨by kernel_rfl, fun w hS => by kernel_rfl⟩) hS ?_
  refine wpAnyH_take (i := 10) (v := .pointer (some ⟨q, 9, none⟩)) rfl (by kernel_rfl) (by kernel_rfl) (by kernel_rfl) (fun _ _ _ h => h) (Or.inl ⟨by kernel_rfl, fun w hS => by kernel_rfl⟩) hS ?_
  refine wpAnyH_take (i := 11) (v := .int .u64 (c.h : Int)) rfl (by kernel_rfl) (by kernel_rfl) (by kernel_rfl) (fun _ _ _ h => h) (Or.inl ⟨by kernel_rfl, fun w hS => by have k15 := hS.c15; have k14 := hS.c14; have k9 := hS.c9; go_simp⟩) hS ?_
  refine wpAnyH_ready (rs := [12]) (by kernel_rfl) (by simp) ?_
  refine AllReadyH.cons rfl (fun K hK => ?_) AllReadyH.nil
  go_simp
  go_at_call 81
  refine (HC.out _).mono ?_
  rintro e w1 ⟨rfl, rfl⟩
  refine hK.out _ _ HH.out (fun hS => ?_)
  clear hK K
  refine wpAnyH_ready (rs := [13]) (by kernel_rfl) (by simp) ?_
  refine AllReadyH.cons rfl (fun K hK => ?_) AllReadyH.nil
  go_simp
  go_at_call 97
  refine (HN.out _).mono ?_
  rintro e w1 ⟨rfl, rfl⟩
  refine hK.out _ _ HH.out (fun hS => ?_)
  clear hK K
  refine wpAnyH_take (i := 14) (v := .tuple #[.int .i64 (np : Int), .int .i64 k]) rfl (by kernel_rfl) (by kernel_rfl) (by kernel_rfl) (fun _ _ _ h => h) (Or.inl ⟨by kernel_rfl, fun w hS => by kernel_rfl⟩) hS ?_
  refine wpAnyH_take (i := 15) (v := .int .i64 (np : Int)) rfl (by kernel_rfl) (by kernel_rfl) (by kernel_rfl) (fun _ _ _ h => h) (Or.inl ⟨by kernel_rfl, fun w hS => by kernel_rfl⟩) hS ?_
  refine wpAnyH_take (i := 16) (v := .int .i64 k) rfl (by kernel_rfl) (by kernel_rfl) (by kernel_rfl) (fun _ _ _ h => h) (Or.inl ⟨by kernel_rfl, fun w hS => by kernel_rfl⟩) hS ?_
  refine wpAnyH_take (i := 17) (v := .int .i64 (np : Int)) rfl (by kernel_rfl) (by kernel_rfl) (by kernel_rfl) (fun _ _ _ h => h) (Or.inl ⟨by kernel_rfl, fun w hS => by kernel_rfl⟩) hS ?_
  refine wpAnyH_take (i := 18) (v := .int .i64 k) rfl (by kernel_rfl) (by kernel_rfl) (by kernel_rfl) (fun _ _ _ h => h) (Or.inl ⟨by kernel_rfl, fun w hS => by kernel_rfl⟩) hS ?_
  refine wpAnyH_done (by kernel_rfl) ?_ _
  have c14 := HH.out.c14
  have f14 := HH.out.fz 14
  clear hS
  obtain ⟨W, hW⟩ : ∃ W, W = w.drew.setCell ⟨q, 14, none⟩ (.int .i64 (np : Int)) := ⟨_, rfl⟩
  have HW := Lib.hid hW
  have HS1 : Hid (Kb W q c s1 vc vs vr ∧ Chg q w W ∧ W.heap.size = w.heap.size) := Lib.hid (by rw [hW]; exact HS.out)
  clear hW HS
  have HE := Lib.hid (fun (n : Nat) (x : Int) (hx : (n : Int) = x) => (hx ▸ kend_z HS1.out.1 n : Calls Tryz.prog 74 #[.pointer (some ⟨q, 0, none⟩), .agg #[.int .i64 x, .int .i64 0, .int .u64 0, .string ⟨#[]⟩]] W (Ends q c (Sk.fin s1 ⟨n, 0, 0, []⟩) vc vs vr (.tuple #[]) W)))
  have HF := Lib.hid (kfree_any HS1.out.1)
  have htg := ktoG_any HS1.out.1 (s.n + 1) HT.out
  rw [show ((s.n + 1 : Nat) : Int) = (s.n : Int) + 1 by omega] at htg
  have HTG := Lib.hid htg
  clear htg
  have d0 := HS1.out.1.c0
  have g0 := HS1.out.1.fz 0
  have d12 := HS1.out.1.c12
  rw [hsn] at d12
  have hwn : wrap64 ((s.n : Int) + 1) = ((s.n + 1 : Nat) : Int) := by rw [wrap64_small (by omega) (by omega)]; omega
  clear hsn hn
  obtain rfl | rfl | rfl | rfl : k = 1 ∨ k = 2 ∨ k = 3 ∨ k = 0 := by omega
  · have HR := Lib.hid (show r = Sk.free c s1 from HG.out)
    clear HG HE HTG d0 g0 hcb d12 hwn
    go_wp2_with fail
    rw [show (w.setCell ⟨q, 14, none⟩ (.int .i64 (np : Int))).drew = W from HW.out.symm]
    with_reducible refine HF.out.mono ?_
    rintro e w2 ⟨rfl, vc', h1, h2, h3⟩
    have H1 := Lib.hid h1; have H2 := Lib.hid (HS1.out.2.1.trans h2); have H3 := Lib.hid h3; clear h1 h2 h3
    go_wp2
    refine bodyPost_end (results_none rfl _ _ _) rfl ?_
    exact ⟨rfl, vc', by rw [HR.out]; exact H1.out, H2.out, by rw [HR.out, ← HS1.out.2.2]; exact H3.out⟩
  · have HR := Lib.hid (show r = Sk.fin s1 ⟨4, 0, 0, []⟩ from HG.out)
    have KE := Lib.hid (HE.out 4 4 rfl)
    clear HG HE HTG d0 g0 hcb HF d12 hwn
    go_wp2_with fail
    rw [show (w.setCell ⟨q, 14, none⟩ (.int .i64 (np : Int))).drew = W from HW.out.symm]
    with_reducible refine KE.out.mono ?_
    rintro e w2 ⟨rfl, h1, h2⟩
    have H1 := Lib.hid h1; have H2 := Lib.hid (HS1.out.2.1.trans h2); clear h1 h2
    go_wp2
    refine bodyPost_end (results_none rfl _ _ _) rfl ?_
    exact ⟨rfl, vc, by rw [HR.out]; exact H1.out, H2.out, by rw [HR.out]; exact fun e => by cases e⟩
  · have HR := Lib.hid (show r = { s1 with p := 5 } from HG.out)
    have H1 := Lib.hid (HS1.out.1.st (s' := { s1 with p := 5 }) (vc' := vc) (vs' := vs) (vr' := vr) 0 (.int .i64 5) rfl)
    have H2 := Lib.hid (HS1.out.2.1.set 0 (.int .i64 5) HS1.out.1.lt)
    clear HG HE HTG hcb HF d12 hwn
    go_wp2
    refine bodyPost_end (results_none rfl _ _ _) rfl ?_
    rw [show ((w.setCell ⟨q, 14, none⟩ (.int .i64 (np : Int))).setCell ⟨q, 0, none⟩ (.int .i64 5)).drew = W.setCell ⟨q, 0, none⟩ (.int .i64 5) by rw [HW.out]; rfl]
    exact ⟨rfl, vc, by rw [HR.out]; exact H1.out, H2.out, by rw [HR.out]; exact fun e => by cases e⟩
  · have HR := Lib.hid (show r = Sk.toG c s1 (s.n + 1) from HG.out)
    clear HG HE d0 g0 hcb HF
    go_wp2_with fail
    rw [show (w.setCell ⟨q, 14, none⟩ (.int .i64 (np : Int))).drew = W from HW.out.symm]
    with_reducible refine HTG.out.mono ?_
    rintro e w2 ⟨rfl, h1, h2⟩
    have H1 := Lib.hid h1; have H2 := Lib.hid (HS1.out.2.1.trans h2); clear h1 h2
    go_wp2
    refine bodyPost_end (results_none rfl _ _ _) rfl ?_
    exact ⟨rfl, vc, by rw [HR.out]; exact H1.out, H2.out, by rw [HR.out]; exact fun e => absurd e (toG_p c s1 (s.n + 1))⟩
end Go.Proofs.YtknefjigdlbacaaGreatDoor
