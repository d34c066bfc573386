/-
  The walks of a seek's Take, part by part. By an AI agent.
-/
import Derived.Test.YtknefjigdlbacaaGreatDoorSkGAX
set_option linter.unusedSimpArgs false
set_option linter.unusedVariables false
namespace Go.Proofs.YtknefjigdlbacaaGreatDoor
open Go.RowKit Go.Maps
open Ac (A)
theorem Tn.wide {F F' H H' : Nat → Prop} {w w' : World} (h : Tn F F' w w') (hF : ∀ k, F k → H k) (hs : ∀ k, H' k → H k ∨ w.heap.size ≤ k) : Tn H H' w w' :=
  ⟨h.os, h.tape, h.output, h.size, fun k hk hn => h.block k hk (fun e => hn (hF k e)), hs⟩
theorem ktake_nil (v : Int) (w : World) : Calls Tryz.prog 10 #[.pointer none, .int .u64 v] w (Same (.tuple #[]) w) := by
  go_enter Tryz.func10, Tryz.ntmps10
  refine scope_hops 1 ?_
  go_wp2
  rw [Hop.ret]
  refine bodyPost_ret (results_none rfl _ _ _) rfl ?_
  exact ⟨rfl, rfl⟩
set_option maxRecDepth 100000 in
set_option maxHeartbeats 2000000 in
theorem ktake_4 {w : World} {q : Nat} {c : Sk.C} {s : Sk.S} {vc vs vr : Value} (h : Kb w q c s vc vs vr) (got : Nat) (hp : s.p = 4) :
    Calls Tryz.prog 10 #[.pointer (some ⟨q, 0, none⟩), .int .u64 (got : Int)] w (Ends q c { s with p := 6 } vc vs vr (.tuple #[]) w) := by
  have c0 := h.c0
  rw [hp] at c0
  rw [show ((4 : Nat) : Int) = 4 from rfl] at c0
  have f0 := h.fz 0
  have H1 := Lib.hid (h.st (s' := { s with p := 6 }) (vc' := vc) (vs' := vs) (vr' := vr) 0 (.int .i64 6) rfl)
  have H2 := Lib.hid ((Chg.refl q w).set 0 (.int .i64 6) h.lt)
  clear h hp
  go_enter Tryz.func10, Tryz.ntmps10
  refine scope_hops 1 ?_
  go_wp2
  rw [Hop.ret]
  refine bodyPost_ret (results_none rfl _ _ _) rfl ?_
  exact ⟨rfl, H1.out, H2.out⟩
set_option maxRecDepth 100000 in
set_option maxHeartbeats 2000000 in
theorem ktake_1 {w : World} {q : Nat} {c : Sk.C} {s : Sk.S} {vc vs vr : Value} (h : Kb w q c s vc vs vr) (got : Nat) (hp : s.p = 1) (hh : c.h < 18446744073709551616) (hg : got < 18446744073709551616) (hn : s.n ≤ 1000) :
    Calls Tryz.prog 10 #[.pointer (some ⟨q, 0, none⟩), .int .u64 (got : Int)] w (Leads q c (Sk.goOn c { s with w := got, i := 0 }) vs vr (.tuple #[]) w) := by
  have c0 := h.c0
  rw [hp] at c0
  rw [show ((1 : Nat) : Int) = 1 from rfl] at c0
  have f15 := h.fz 15
  have f14 := h.fz 14
  have c15 := h.c15
  have c14 := h.c14
  have h1 := h.st (s' := { s with w := got }) (vc' := vc) (vs' := vs) (vr' := vr) 15 (.int .u64 (got : Int)) rfl
  have h2 := h1.st (s' := { s with w := got, i := 0 }) (vc' := vc) (vs' := vs) (vr' := vr) 14 (.int .i64 0) rfl
  obtain ⟨W, hW⟩ : ∃ W, W = (w.setCell ⟨q, 15, none⟩ (.int .u64 (got : Int))).setCell ⟨q, 14, none⟩ (.int .i64 0) := ⟨_, rfl⟩
  have HC := Lib.hid (show Chg q w W by rw [hW]; exact ((Chg.refl q w).set 15 (.int .u64 (got : Int)) h.lt).set 14 (.int .i64 0) h1.lt)
  have HZ := Lib.hid (show W.heap.size = w.heap.size by rw [hW, World.size_setCell, World.size_setCell])
  have HG := Lib.hid (show Calls Tryz.prog 42 #[.pointer (some ⟨q, 0, none⟩)] W (Leads q c (Sk.goOn c { s with w := got, i := 0 }) vs vr (.tuple #[]) W) by rw [hW]; exact kgoOn_any h2 hh hg hn)
  have HW := Lib.hid hW
  generalize Sk.goOn c { s with w := got, i := 0 } = r at *
  clear h h1 h2 hp hh hg hn hW
  go_enter Tryz.func10, Tryz.ntmps10
  refine scope_hops 1 ?_
  go_wp2_with fail
  go_step3
  refine Hop.go (K := fun _ _ => True) rfl ?_
  go_wp2_with fail
  rw [show (w.setCell ⟨q, 15, none⟩ (.int .u64 (got : Int))).setCell ⟨q, 14, none⟩ (.int .i64 0) = W from HW.out.symm]
  with_reducible refine HG.out.mono ?_
  rintro e w2 ⟨rfl, vc2, h1, h2, h3⟩
  have H1 := Lib.hid h1; have H2 := Lib.hid (HC.out.trans h2); have H3 := Lib.hid h3; clear h1 h2 h3
  go_wp2
  rw [Hop.normal]
  refine bodyPost_end (results_none rfl _ _ _) rfl ?_
  exact ⟨rfl, vc2, H1.out, H2.out, by rw [← HZ.out]; exact H3.out⟩
set_option maxRecDepth 100000 in
set_option maxHeartbeats 2000000 in
theorem ktake_3n {w : World} {q : Nat} {c : Sk.C} {s : Sk.S} {vc vs vr : Value} (h : Kb w q c s vc vs vr) (got : Nat) (hp : s.p = 3) (hne : got ≠ s.w) (hh : c.h < 18446744073709551616) (hg : got < 18446744073709551616) (hn : s.n ≤ 1000) :
    Calls Tryz.prog 10 #[.pointer (some ⟨q, 0, none⟩), .int .u64 (got : Int)] w (Leads q c (Sk.goOn c { s with w := got }) vs vr (.tuple #[]) w) := by
  have c0 := h.c0
  rw [hp] at c0
  rw [show ((3 : Nat) : Int) = 3 from rfl] at c0
  have f15 := h.fz 15
  have c15 := h.c15
  have e1 : ((got : Int) != (s.w : Int)) = true := by simp; omega
  have h1 := h.st (s' := { s with w := got }) (vc' := vc) (vs' := vs) (vr' := vr) 15 (.int .u64 (got : Int)) rfl
  obtain ⟨W, hW⟩ : ∃ W, W = w.setCell ⟨q, 15, none⟩ (.int .u64 (got : Int)) := ⟨_, rfl⟩
  have HC := Lib.hid (show Chg q w W by rw [hW]; exact (Chg.refl q w).set 15 (.int .u64 (got : Int)) h.lt)
  have HZ := Lib.hid (show W.heap.size = w.heap.size by rw [hW, World.size_setCell])
  have HG := Lib.hid (show Calls Tryz.prog 42 #[.pointer (some ⟨q, 0, none⟩)] W (Leads q c (Sk.goOn c { s with w := got }) vs vr (.tuple #[]) W) by rw [hW]; exact kgoOn_any h1 hh hg hn)
  have HW := Lib.hid hW
  generalize Sk.goOn c { s with w := got } = r at *
  generalize s.w = sw at *
  clear h h1 hp hh hg hn hW hne
  go_enter Tryz.func10, Tryz.ntmps10
  refine scope_hops 1 ?_
  go_wp2_with fail
  go_step3
  refine Hop.go (K := fun _ _ => True) rfl ?_
  go_wp2_with fail
  rw [show w.setCell ⟨q, 15, none⟩ (.int .u64 (got : Int)) = W from HW.out.symm]
  with_reducible refine HG.out.mono ?_
  rintro e w2 ⟨rfl, vc2, h1, h2, h3⟩
  have H1 := Lib.hid h1; have H2 := Lib.hid (HC.out.trans h2); have H3 := Lib.hid h3; clear h1 h2 h3
  go_wp2
  rw [Hop.normal]
  refine bodyPost_end (results_none rfl _ _ _) rfl ?_
  exact ⟨rfl, vc2, H1.out, H2.out, by rw [← HZ.out]; exact H3.out⟩
set_option maxRecDepth 100000 in
set_option maxHeartbeats 2000000 in
theorem ktake_3y {w : World} {q : Nat} {c : Sk.C} {s : Sk.S} {vc vs vr : Value} (h : Kb w q c s vc vs vr) (got : Nat) (hp : s.p = 3) (heq : got = s.w) (hh : c.h < 18446744073709551616) (hw : s.w < 18446744073709551616) :
    Calls Tryz.prog 10 #[.pointer (some ⟨q, 0, none⟩), .int .u64 (got : Int)] w (Ends q c { s with w := Sk.clmd c s, p := 4 } vc vs vr (.tuple #[]) w) := by
  have c0 := h.c0
  rw [hp] at c0
  rw [show ((3 : Nat) : Int) = 3 from rfl] at c0
  have c15 := h.c15
  rw [← heq] at c15
  have e1 : ((got : Int) != (got : Int)) = false := by simp
  have HH := Lib.hid h
  have KC := Lib.hid (kclaimed_any h hh hw)
  generalize Sk.clmd c s = cm at *
  clear h hp hh hw heq
  go_enter Tryz.func10, Tryz.ntmps10
  refine scope_hops 1 ?_
  go_wp2_with fail
  with_reducible refine KC.out.mono ?_
  rintro e w1 ⟨rfl, hb⟩
  have h0 := HH.out.below hb
  have k15 := h0.c15
  have k0 := h0.c0
  have f15 := h0.fz 15
  have f0 := h0.fz 0
  have h1 := h0.st (s' := { s with w := cm }) (vc' := vc) (vs' := vs) (vr' := vr) 15 (.int .u64 (cm : Int)) rfl
  have h2 := h1.st (s' := { s with w := cm, p := 4 }) (vc' := vc) (vs' := vs) (vr' := vr) 0 (.int .i64 4) rfl
  have H2 := Lib.hid h2
  have H3 := Lib.hid (((show Chg q w w1 from Tn.of_below hb).set 15 (.int .u64 (cm : Int)) h0.lt).set 0 (.int .i64 4) h1.lt)
  clear h0 h1 h2 hb c0 c15
  go_wp2
  rw [Hop.ret]
  refine bodyPost_ret (results_none rfl _ _ _) rfl ?_
  exact ⟨rfl, H2.out, H3.out⟩
set_option maxRecDepth 100000 in
set_option maxHeartbeats 2000000 in
theorem ktake_2 {w : World} {q : Nat} {c : Sk.C} {s : Sk.S} {vc vs vr : Value} (h : Kb w q c s vc vs vr) (got : Nat) {qc : Nat} (hp : s.p = 2) (hv : vc = .pointer (some ⟨qc, 0, none⟩)) (hc : Cb w qc c.b c.lg s.cs) (hr : Tb.right (c.b : Int) (Tb.grp c.lg) = true) (h4 : s.cs.length ≤ 4) :
    Calls Tryz.prog 10 #[.pointer (some ⟨q, 0, none⟩), .int .u64 (got : Int)] w (fun e w' => e = .returned (.tuple #[]) ∧ Kb w' q c (Sk.hear c { s with cs := Cw.step s.cs got }) vc vs vr ∧ Cb w' qc c.b c.lg (Cw.step s.cs got) ∧ Tn (fun k => k = q ∨ k = qc) (fun k => k = q ∨ k = qc) w w') := by
  have c0 := h.c0
  rw [hp] at c0
  rw [show ((2 : Nat) : Int) = 2 from rfl] at c0
  subst hv
  have c17 := h.c17
  have hne : q ≠ qc := fun e => by
    subst e
    have := (show w.heap[q]? = _ from h).symm.trans (show w.heap[q]? = _ from hc)
    injection this with this
    injection this with h1 h2 h3
    exact absurd h2 (by decide)
  have HN := Lib.hid hne
  have K1 := Lib.hid (ctake_any hc hr h4 got)
  have K2 : Hid (∀ w1, Cb w1 qc c.b c.lg (Cw.step s.cs got) → Chg qc w w1 → Kb w1 q c { s with cs := Cw.step s.cs got } (.pointer (some ⟨qc, 0, none⟩)) vs vr → Calls Tryz.prog 36 #[.pointer (some ⟨q, 0, none⟩)] w1 (Ends q c (Sk.hear c { s with cs := Cw.step s.cs got }) (.pointer (some ⟨qc, 0, none⟩)) vs vr (.tuple #[]) w1)) := Lib.hid (fun w1 h1 _ h2 => khear_any h2 h1 hr (Cw.step_len h4 got))
  have HH := Lib.hid h
  generalize Sk.hear c { s with cs := Cw.step s.cs got } = r at *
  have HQ := Lib.hid hc.lt
  clear h hp hc hr h4 hne
  go_enter Tryz.func10, Tryz.ntmps10
  refine scope_hops 1 ?_
  go_wp2_with fail
  with_reducible refine K1.out.mono ?_
  rintro e w1 ⟨rfl, hcb, hch⟩
  have hk1 : Kb w1 q c { s with cs := Cw.step s.cs got } (.pointer (some ⟨qc, 0, none⟩)) vs vr := HH.out.keep (hch.block q HH.out.lt HN.out)
  have K3 := Lib.hid (K2.out w1 hcb hch hk1)
  have HCB := Lib.hid hcb
  have HCH := Lib.hid hch
  clear hcb hch hk1 K1 K2 c0 c17
  go_wp2_with fail
  with_reducible refine K3.out.mono ?_
  rintro e w2 ⟨rfl, h1, h2⟩
  have H1 := Lib.hid h1; have H2 := Lib.hid h2; clear h1 h2
  go_wp2
  rw [Hop.ret]
  refine bodyPost_ret (results_none rfl _ _ _) rfl ?_
  refine ⟨rfl, H1.out, HCB.out.keep (H2.out.block qc HCB.out.lt (fun e => HN.out e.symm)), ?_⟩
  exact (HCH.out.wide (fun k e => .inr e) (fun k e => .inl e)).trans (H2.out.wide (fun k e => .inl e) (fun k e => .inl e))
end Go.Proofs.YtknefjigdlbacaaGreatDoor
