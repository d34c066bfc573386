/-
  Several texts in one: Take, Result and New of a seek in all; What is found, compared; the walks of a seek's Result and of New. By an AI agent.
-/
import Derived.Test.YtknefjigdlbacaaGreatDoorSkGAZ
set_option linter.unusedSimpArgs false
set_option linter.unusedVariables false
namespace Go.Proofs.YtknefjigdlbacaaGreatDoor
open Go.RowKit Go.Maps
open Ac (A)
theorem opn_i (s : Sk.S) : (Sk.opn s).1.i = s.i := by
  unfold Sk.opn
  repeat' split
  all_goals rfl
theorem told_i (c : Sk.C) (s : Sk.S) (g : Nat) : (Sk.told c s g).1.i = s.i := by
  unfold Sk.told
  repeat' split
  all_goals first | rfl | exact opn_i _
theorem cmp_i (c : Sk.C) (s : Sk.S) : (Sk.cmp c s).1.i = s.i := by
  unfold Sk.cmp
  repeat' split
  all_goals rfl
theorem opn_p {s : Sk.S} (h : s.p = 7) : (Sk.opn s).1.p = 0 ∨ (Sk.opn s).1.p = 7 ∨ (Sk.opn s).1.p = 8 := by
  unfold Sk.opn
  repeat' split
  all_goals simp [Sk.fin, h]
theorem told_p (c : Sk.C) {s : Sk.S} (g : Nat) : (Sk.told c s g).1.p = 0 ∨ (Sk.told c s g).1.p = 6 ∨ (Sk.told c s g).1.p = 7 ∨ (Sk.told c s g).1.p = 8 := by
  unfold Sk.told
  repeat' split
  all_goals first | (simp [Sk.fin]; done) | skip
  rcases opn_p (s := { s with p := 7, sh := Sh.new g }) rfl with h | h | h
  · exact .inl h
  · exact .inr (.inr (.inl h))
  · exact .inr (.inr (.inr h))
theorem cmp_p (c : Sk.C) {s : Sk.S} (h : s.p = 8) : (Sk.cmp c s).1.p = 0 ∨ (Sk.cmp c s).1 = s := by
  unfold Sk.cmp
  repeat' split
  all_goals simp [Sk.fin, h]
theorem free_p (c : Sk.C) (s : Sk.S) : (Sk.free c s).p ≠ 7 ∧ (Sk.free c s).p ≠ 8 := by
  unfold Sk.free
  repeat' split
  all_goals simp [Sk.fin]
theorem goOn_p (c : Sk.C) (s : Sk.S) : (Sk.goOn c s).p ≠ 7 ∧ (Sk.goOn c s).p ≠ 8 := by
  unfold Sk.goOn
  split
  · exact free_p _ _
  · split
    · simp [Sk.fin]
    · split
      · simp
      · unfold Sk.toG
        repeat' split
        all_goals simp [Sk.fin]
section
variable {B : Nat} {w w' : World} {q : Nat} {c : Sk.C} {s : Sk.S} {H H1 : Nat → Prop} {vc vs vr : Value}
/-- What a Take leaves behind. -/
def Taken (B : Nat) (w : World) (q : Nat) (c : Sk.C) (s : Sk.S) (H : Nat → Prop) (w' : World) : Prop := ∃ H', Ks B w' q c s H' ∧ Tn H H' w w'
theorem took_plain (hq : B ≤ q) (hk : Kb w' q c s vc vs vr) (h2 : s.p ≠ 2) (h7 : s.p ≠ 7) (h8 : s.p ≠ 8) (hH : H q) (ht : Tn H H1 w w') : Taken B w q c s H w' :=
  ⟨fun k => k = q, ⟨hq, vc, vs, vr, hk, .inl ⟨h2, h7, h8, rfl⟩⟩, ht.wide (fun k e => e) (fun k e => .inl (by rw [show k = q from e]; exact hH))⟩
theorem took_crowd (hq : B ≤ q) (hB : B ≤ w.heap.size) (hk : Kb w' q c s vc vs vr) (h2 : s.p = 2) (hcs : s.cs = []) (hc : Cq w.heap.size vc w' c) (hH : H q) (ht : Tn H H1 w w') : Taken B w q c s H w' := by
  obtain ⟨qc, e1, e2, e3⟩ := hc
  refine ⟨fun k => k = q ∨ k = qc, ⟨hq, vc, vs, vr, hk, .inr (.inl ⟨h2, qc, e1, by omega, by rw [hcs]; exact e3, rfl⟩)⟩, ht.wide (fun k e => e) (fun k e => ?_)⟩
  rcases e with rfl | rfl
  · exact .inl hH
  · exact .inr e2
theorem took_leads (hq : B ≤ q) (hB : B ≤ w.heap.size) (hH : H q) (hF : ∀ k, k = q → H k) {x : Value} {e : Ending} (h : Leads q c s vs vr x w e w') (h7 : s.p ≠ 7) (h8 : s.p ≠ 8) : e = .returned x ∧ Taken B w q c s H w' := by
  obtain ⟨rfl, vc, hk, hc, h2⟩ := h
  have ht : Tn H H w w' := hc.wide hF (fun k e => .inl e)
  by_cases hp : s.p = 2
  · exact ⟨rfl, took_crowd hq hB hk hp (h2 hp).1 (h2 hp).2 hH ht⟩
  · exact ⟨rfl, took_plain hq hk hp h7 h8 hH ht⟩
theorem took_ends (hq : B ≤ q) (hH : H q) (hF : ∀ k, k = q → H k) {x : Value} {e : Ending} (h : Ends q c s vc vs vr x w e w') (h2 : s.p ≠ 2) (h7 : s.p ≠ 7) (h8 : s.p ≠ 8) : e = .returned x ∧ Taken B w q c s H w' := by
  obtain ⟨rfl, hk, hc⟩ := h
  exact ⟨rfl, took_plain hq hk h2 h7 h8 hH (hc.wide hF (fun k e => .inl e))⟩
theorem took_sh (hq : B ≤ q) (hB : B ≤ w.heap.size) (hk : Kb w' q c s vc vs vr) (h7 : s.p = 7) (hc : Sq w.heap.size vs w' c s) (hH : H q) (ht : Tn H H1 w w') : Taken B w q c s H w' := by
  obtain ⟨qc, e1, e2, e3⟩ := hc
  refine ⟨fun k => k = q ∨ k = qc, ⟨hq, vc, vs, vr, hk, .inr (.inr (.inl ⟨h7, qc, e1, by omega, e3, rfl⟩))⟩, ht.wide (fun k e => e) (fun k e => ?_)⟩
  rcases e with rfl | rfl
  · exact .inl hH
  · exact .inr e2
theorem took_rd (hq : B ≤ q) (hB : B ≤ w.heap.size) (hk : Kb w' q c s vc vs vr) (h8 : s.p = 8) {ad : Option Addr} {cc : Nat} (hc : Rq w.heap.size vr w' c s ad cc) (hH : H q) (ht : Tn H H1 w w') : Taken B w q c s H w' := by
  obtain ⟨qr, e1, e3⟩ := hc
  refine ⟨fun k => k = q ∨ Rst.F qr s.rs s.rs.length ad cc k, ⟨hq, vc, vs, vr, hk, .inr (.inr (.inr ⟨h8, qr, ad, cc, e1, e3.mono hB, rfl⟩))⟩, ht.wide (fun k e => e) (fun k e => ?_)⟩
  rcases e with rfl | e
  · exact .inl hH
  · exact .inr (e3.foot e).1
end
theorem step_1 (c : Sk.C) {s : Sk.S} (h : s.p = 1) (g : Nat) : Sk.step c s g = Sk.goOn c { s with w := g, i := 0 } := by unfold Sk.step; rw [if_pos h]
theorem step_2 (c : Sk.C) {s : Sk.S} (h : s.p = 2) (g : Nat) : Sk.step c s g = Sk.hear c { s with cs := Cw.step s.cs g } := by unfold Sk.step; rw [if_neg (by omega), if_pos h]
theorem step_3y (c : Sk.C) {s : Sk.S} (h : s.p = 3) {g : Nat} (e : g = s.w) : Sk.step c s g = { s with w := Sk.clmd c s, p := 4 } := by unfold Sk.step; rw [if_neg (by omega), if_neg (by omega), if_pos h, if_pos e]
theorem step_3n (c : Sk.C) {s : Sk.S} (h : s.p = 3) {g : Nat} (e : g ≠ s.w) : Sk.step c s g = Sk.goOn c { s with w := g } := by unfold Sk.step; rw [if_neg (by omega), if_neg (by omega), if_pos h, if_neg e]
theorem step_4 (c : Sk.C) {s : Sk.S} (h : s.p = 4) (g : Nat) : Sk.step c s g = { s with p := 6 } := by unfold Sk.step; rw [if_neg (by omega), if_neg (by omega), if_neg (by omega), if_pos h]
theorem step_56 (c : Sk.C) {s : Sk.S} (h : s.p = 5 ∨ s.p = 6) (g : Nat) : Sk.step c s g = Sk.aft c (Sk.told c s g) := by unfold Sk.step; rw [if_neg (by omega), if_neg (by omega), if_neg (by omega), if_neg (by omega), if_pos h]
theorem step_7 (c : Sk.C) {s : Sk.S} (h : s.p = 7) (g : Nat) : Sk.step c s g = Sk.aft c (Sk.opn { s with sh := Sh.step s.sh g }) := by unfold Sk.step; rw [if_neg (by omega), if_neg (by omega), if_neg (by omega), if_neg (by omega), if_neg (by omega), if_pos h]
theorem step_8 (c : Sk.C) {s : Sk.S} (h : s.p = 8) (g : Nat) : Sk.step c s g = Sk.aft c (Sk.cmp c { s with rs := s.rs ++ [g] }) := by unfold Sk.step; rw [if_neg (by omega), if_neg (by omega), if_neg (by omega), if_neg (by omega), if_neg (by omega), if_neg (by omega), if_pos h]
theorem step_0 (c : Sk.C) {s : Sk.S} (h : s.p = 0) (g : Nat) : Sk.step c s g = s := by unfold Sk.step; repeat rw [if_neg (by omega)]
set_option maxHeartbeats 1000000 in
theorem ktake_0 {w : World} {q : Nat} {c : Sk.C} {s : Sk.S} {vc vs vr : Value} (h : Kb w q c s vc vs vr) (hp : s.p = 0) (v : Int) : Calls Tryz.prog 10 #[.pointer (some ⟨q, 0, none⟩), .int .u64 v] w (Same (.tuple #[]) w) := by
  have c0 := h.c0
  rw [hp] at c0
  rw [show ((0 : Nat) : Int) = 0 from rfl] at c0
  clear h hp
  go_enter Tryz.func10, Tryz.ntmps10
  refine scope_hops 1 ?_
  go_wp2
  rw [Hop.ret]
  refine bodyPost_ret (results_none rfl _ _ _) rfl ?_
  exact ⟨rfl, rfl⟩
theorem scell_pos {c : Sk.C} {s : Sk.S} (hg : 0 ≤ s.g ∧ s.g < Tb.grp c.lg) (hi : s.i < 8) : 0 ≤ Sk.scell c s := by
  unfold Sk.scell
  rw [Tb.sc_in hg.1 hg.2 (by omega) (by omega)]
  omega
/-- Take. -/
theorem sktake_any {B : Nat} {w : World} {q : Nat} {c : Sk.C} {s : Sk.S} {H : Nat → Prop} (h : Ks B w q c s H) (hs : Sk.Wf c s) (ho : Sk.Ok c) (hr : Tb.right (c.b : Int) (Tb.grp c.lg) = true) (hbd : Bd w) (hrt : Dk.right c.d c.th c.nn c.kp = true) (hB : B ≤ w.heap.size) (got : Nat) (hgot : got < 18446744073709551616) :
    Calls Tryz.prog 10 #[.pointer (some ⟨q, 0, none⟩), .int .u64 (got : Int)] w fun e w' => e = .returned (.tuple #[]) ∧ Taken B w q c (Sk.step c s got) H w' := by
  have hks := h
  obtain ⟨hq, vc, vs, vr, hb, h⟩ := h
  have hgl := Tb.grp_le c.lg
  by_cases h0 : s.p = 0
  · rw [step_0 c h0]
    refine (ktake_0 hb h0 got).mono ?_
    rintro e w' ⟨rfl, rfl⟩
    exact ⟨rfl, H, hks, Tn.refl _ _⟩
  · have hg := hs.g h0
    have hg0 : -9223372036854775808 ≤ s.g := by omega
    have hg1 : s.g ≤ 9223372036854775807 := by omega
    have hp := hs.p
    have hi := hs.i
    have hwg := Sk.wf_wg hs h0
    have hn : s.n ≤ 1000 := by have := hwg.n; omega
    rcases h with h | h | h | h
    · obtain ⟨n2, n7, n8, rfl⟩ := h
      have : s.p = 1 ∨ s.p = 3 ∨ s.p = 4 ∨ s.p = 5 ∨ s.p = 6 := by omega
      rcases this with h1 | h1 | h1 | h1 | h1
      · rw [step_1 c h1]
        exact (ktake_1 hb got h1 ho.h hgot hn).mono fun e w' h => took_leads (H := fun k => k = q) hq hB rfl (fun k e => e) h (goOn_p _ _).1 (goOn_p _ _).2
      · by_cases he : got = s.w
        · rw [step_3y c h1 he]
          exact (ktake_3y hb got h1 he ho.h hs.w).mono fun e w' h => took_ends (H := fun k => k = q) hq rfl (fun k e => e) h (by simp) (by simp) (by simp)
        · rw [step_3n c h1 he]
          exact (ktake_3n hb got h1 he ho.h hgot hn).mono fun e w' h => took_leads (H := fun k => k = q) hq hB rfl (fun k e => e) h (goOn_p _ _).1 (goOn_p _ _).2
      · rw [step_4 c h1]
        exact (ktake_4 hb got h1).mono fun e w' h => took_ends (H := fun k => k = q) hq rfl (fun k e => e) h (by simp) (by simp) (by simp)
      all_goals
        have hi8 := hs.i8 h0 (by omega)
        have hw := Sk.wt_told hwg (by omega) hi8 hgot
        rw [step_56 c (by omega)]
        have hgo : GoesK (Sk.told c s got) := fun e => by
          have := hw.yes e
          have e3 := told_i c s got
          exact ⟨this.w, by have := this.n; omega, by omega⟩
        first
        | refine (ktake_5 hb got h1 ho hbd hrt hg0 hg1 hi (scell_pos hg hi8) hgot hgo).mono ?_
        | refine (ktake_6 hb got h1 ho hbd hrt hg0 hg1 hi (scell_pos hg hi8) hgot hgo).mono ?_
        rintro e w' ⟨rfl, vc2, vs2, vr2, hk, ht, hy, hn⟩
        refine ⟨rfl, ?_⟩
        generalize hx : Sk.told c s got = x at *
        obtain ⟨y, t⟩ := x
        cases t with
        | true =>
          by_cases h2 : (Sk.aft c (y, true)).p = 2
          · exact took_crowd hq hB hk h2 (hy rfl h2).1 (hy rfl h2).2 rfl ht
          · exact took_plain hq hk h2 (goOn_p _ _).1 (goOn_p _ _).2 rfl ht
        | false =>
          have hn := hn rfl
          have hp3 := told_p c (s := s) got
          rw [hx] at hp3
          rcases hp3 with h3 | h3 | h3 | h3
          · exact took_plain hq hk (by show y.p ≠ 2; simp only at h3; omega) (by show y.p ≠ 7; simp only at h3; omega) (by show y.p ≠ 8; simp only at h3; omega) rfl ht
          · exact took_plain hq hk (by show y.p ≠ 2; simp only at h3; omega) (by show y.p ≠ 7; simp only at h3; omega) (by show y.p ≠ 8; simp only at h3; omega) rfl ht
          · exact took_sh hq hB hk h3 (hn.1 h3) rfl ht
          · exact took_rd hq hB hk h3 (hn.2 h3) rfl ht
    · obtain ⟨h1, qc, e1, e2, e3, rfl⟩ := h
      rw [step_2 c h1]
      refine (ktake_2 hb got h1 e1 e3 hr (by have := hs.ask h1; omega)).mono ?_
      rintro e w' ⟨rfl, hk, hc, ht⟩
      refine ⟨rfl, ?_⟩
      have hH : (fun k => k = q ∨ k = qc) q := .inl rfl
      unfold Sk.hear at hk ⊢
      split at hk
      · rename_i hm
        rw [if_pos hm]
        exact ⟨_, ⟨hq, _, _, _, hk, .inr (.inl ⟨h1, qc, e1, e2, hc, rfl⟩)⟩, ht⟩
      · rename_i hm
        rw [if_neg hm]
        split at hk
        · rename_i hm2
          rw [if_pos hm2]
          exact took_plain hq hk (by simp [Sk.fin]) (by simp [Sk.fin]) (by simp [Sk.fin]) hH ht
        · rename_i hm2
          rw [if_neg hm2]
          exact took_plain hq hk (by simp) (by simp) (by simp) hH ht
    · obtain ⟨h1, qs, e1, e2, e3, rfl⟩ := h
      have hi8 := hs.i8 h0 (by omega)
      have hsh := hs.shi h1
      have hw := Sk.wt_opn (c := c) (s := { s with sh := Sh.step s.sh got }) ⟨hwg.w, hwg.x, Sh.step_r hwg.r hgot, hwg.f, hwg.n, hwg.g⟩ h1 hi8 (Sh.step_p ⟨hsh.1, by omega⟩ got)
      rw [step_7 c h1]
      subst e1
      have hgo : GoesK (Sk.opn { s with sh := Sh.step s.sh got }) := fun e => by
        have := hw.yes e
        have e3 := opn_i { s with sh := Sh.step s.sh got }
        exact ⟨this.w, by have := this.n; omega, by simp only at e3; omega⟩
      refine (ktake_7 hb got h1 ho e3 (by omega) hs.r hgot hgo).mono ?_
      rintro e w' ⟨rfl, vc2, vs2, vr2, hk, ht, hy, hn⟩
      refine ⟨rfl, ?_⟩
      have hH : (fun k => k = q ∨ k = qs) q := .inl rfl
      have h7p := opn_p (s := { s with sh := Sh.step s.sh got }) h1
      have h7e := opn_7 (s := { s with sh := Sh.step s.sh got })
      generalize hx : Sk.opn { s with sh := Sh.step s.sh got } = x at *
      obtain ⟨y, t⟩ := x
      cases t with
      | true =>
        by_cases h2 : (Sk.aft c (y, true)).p = 2
        · exact took_crowd hq hB hk h2 (hy rfl h2).1 (hy rfl h2).2 hH ht
        · exact took_plain hq hk h2 (goOn_p _ _).1 (goOn_p _ _).2 hH ht
      | false =>
        obtain ⟨n1, n2, n3⟩ := hn rfl
        rcases h7p with h3 | h3 | h3
        · exact took_plain hq hk (by show y.p ≠ 2; simp only at h3; omega) (by show y.p ≠ 7; simp only at h3; omega) (by show y.p ≠ 8; simp only at h3; omega) hH ht
        · have e5 := h7e h3
          simp only at e5
          refine ⟨_, ⟨hq, _, _, _, hk, .inr (.inr (.inl ⟨h3, qs, n1, e2, ?_, rfl⟩))⟩, ht⟩
          show Sb w' qs y.sh c.d _ c.b (Sk.scell c y)
          rw [e5]
          exact n2
        · exact took_rd hq hB hk h3 (n3 h3) hH ht
    · obtain ⟨h1, qr, ad, cc, e1, e3, rfl⟩ := h
      have hi8 := hs.i8 h0 (by omega)
      have hrd := hs.rd h1
      have hwr : ∀ y ∈ s.rs ++ [got], y < 18446744073709551616 := by
        intro y hy
        rcases List.mem_append.1 hy with hy | hy
        · exact hrd.2 y hy
        · rw [List.mem_singleton.1 hy]; exact hgot
      have hw := Sk.wt_cmp (c := c) (s := { s with rs := s.rs ++ [got] }) ⟨hwg.w, hwg.x, hwg.r, hwg.f, hwg.n, hwg.g⟩ h1 hi8 hwr
      rw [step_8 c h1]
      subst e1
      have hgo : GoesK (Sk.cmp c { s with rs := s.rs ++ [got] }) := fun e => by
        have := hw.yes e
        have e3 := cmp_i c { s with rs := s.rs ++ [got] }
        exact ⟨this.w, by have := this.n; omega, by simp only at e3; omega⟩
      refine (ktake_8 hb got h1 ho e3 hB hrd.1 hwr hs.x hg0 hg1 hi hgo).mono ?_
      rintro e w' ⟨rfl, vc2, ad2, cc2, hk, ht, hy, hn⟩
      refine ⟨rfl, ?_⟩
      have hH : (fun k => k = q ∨ Rst.F qr s.rs s.rs.length ad cc k) q := .inl rfl
      have h8p := cmp_p c (s := { s with rs := s.rs ++ [got] }) h1
      generalize hx : Sk.cmp c { s with rs := s.rs ++ [got] } = x at *
      obtain ⟨y, t⟩ := x
      cases t with
      | true =>
        by_cases h2 : (Sk.aft c (y, true)).p = 2
        · exact took_crowd hq hB hk h2 (hy rfl h2).1 (hy rfl h2).2 hH ht
        · exact took_plain hq hk h2 (goOn_p _ _).1 (goOn_p _ _).2 hH ht
      | false =>
        rcases h8p with h3 | h3
        · exact took_plain hq hk (by show y.p ≠ 2; simp only at h3; omega) (by show y.p ≠ 7; simp only at h3; omega) (by show y.p ≠ 8; simp only at h3; omega) hH ht
        · simp only at h3
          subst h3
          exact ⟨_, ⟨hq, _, _, _, hk, .inr (.inr (.inr ⟨h1, qr, ad2, cc2, rfl, hn, rfl⟩))⟩, ht⟩
end Go.Proofs.YtknefjigdlbacaaGreatDoor
set_option linter.unusedSimpArgs false
set_option linter.unusedVariables false
namespace Go.Proofs.YtknefjigdlbacaaGreatDoor
open Go.RowKit Go.Maps
open Ac (A)
/-- Are two founds the same? -/
def eqF (a0 a1 a2 b0 b1 b2 : Int) (a b : ByteArray) : Bool := decide (a0 = b0) && (decide (a1 = b1) && (decide (a2 = b2) && (a == b)))
set_option maxRecDepth 100000 in
set_option maxHeartbeats 1000000 in
theorem eq_fd (a0 a1 a2 b0 b1 b2 : Int) (a b : ByteArray) : ∀ w : World, (binOp .eql 40 (.agg #[.int .i64 a0, .int .i64 a1, .int .u64 a2, .string a]) (.agg #[.int .i64 b0, .int .i64 b1, .int .u64 b2, .string b])).run Tryz.prog w = .ok (.bool (eqF a0 a1 a2 b0 b1 b2 a b)) w := fun w => by
  have h1 : Tryz.prog.underlying 40 = some (.struct (Tryz.prog.fieldsOf 40)) := by kernel_rfl
  have h2 : Tryz.prog.stoodInHeld 40 = false := by kernel_rfl
  have hs : Tryz.prog.underlying 9 = some .string := Tryz.underlying9
  rw [run_eql_struct, run_equalIn_struct w 9999 _ _ _ h1 h2]
  have hf : (Tryz.prog.fieldsOf 40).toList.map (fun f => (f.name, f.type, f.offset)) = [("Kind", 3, 0), ("Cell", 3, 1), ("Word", 22, 2), ("Value", 9, 3)] := by kernel_rfl
  generalize (Tryz.prog.fieldsOf 40).toList = fs at hf
  match fs, hf with
  | [f1, f2, f3, f4], hf =>
    simp only [List.map_cons, List.map_nil, List.cons.injEq, Prod.mk.injEq, and_true] at hf
    obtain ⟨⟨n1, t1, o1⟩, ⟨n2, t2, o2⟩, ⟨n3, t3, o3⟩, ⟨n4, t4, o4⟩⟩ := hf
    have p1 : ∀ (x y z : Int) (u : ByteArray) w, (Go.part 3 #[.int .i64 x, .int .i64 y, .int .u64 z, .string u] 0).run Tryz.prog w = .ok (.int .i64 x) w := fun x y z u w => by
      simp [Go.part, go_sem]
    have p2 : ∀ (x y z : Int) (u : ByteArray) w, (Go.part 3 #[.int .i64 x, .int .i64 y, .int .u64 z, .string u] 1).run Tryz.prog w = .ok (.int .i64 y) w := fun x y z u w => by
      simp [Go.part, go_sem]
    have p3 : ∀ (x y z : Int) (u : ByteArray) w, (Go.part 22 #[.int .i64 x, .int .i64 y, .int .u64 z, .string u] 2).run Tryz.prog w = .ok (.int .u64 z) w := fun x y z u w => by
      simp [Go.part, go_sem]
    have p4 : ∀ (x y z : Int) (u : ByteArray) w, (Go.part 9 #[.int .i64 x, .int .i64 y, .int .u64 z, .string u] 3).run Tryz.prog w = .ok (.string u) w := fun x y z u w => by
      simp [Go.part, go_sem]
    unfold eqF
    rw [beq_toListBytes]
    by_cases h0 : a0 = b0 <;> by_cases h1 : a1 = b1 <;> by_cases h2 : a2 = b2 <;> by_cases h3 : a.toList = b.toList <;>
      simp [Op.eqFields, n1, t1, o1, n2, t2, o2, n3, t3, o3, n4, t4, o4, p1, p2, p3, p4, run_equalIn_string _ _ _ _ _ hs, go_sem, Tryz.underlying3, Tryz.underlying22, Tryz.isAgg3, Tryz.isAgg22, h0, h1, h2, h3]
  | [], hf => cases hf
  | [_], hf => simp at hf
  | [_, _], hf => simp at hf
  | [_, _, _], hf => simp at hf
  | _ :: _ :: _ :: _ :: _ :: _, hf => simp at hf
theorem ne_fd (a0 a1 a2 b0 b1 b2 : Int) (a b : ByteArray) : ∀ w : World, (binOp .neq 40 (.agg #[.int .i64 a0, .int .i64 a1, .int .u64 a2, .string a]) (.agg #[.int .i64 b0, .int .i64 b1, .int .u64 b2, .string b])).run Tryz.prog w = .ok (.bool (!eqF a0 a1 a2 b0 b1 b2 a b)) w := fun w => by
  have h := eq_fd a0 a1 a2 b0 b1 b2 a b w
  rw [run_eql_struct] at h
  rw [run_neq_struct]
  revert h
  cases (Op.equalIn 10000 40 (.agg #[.int .i64 a0, .int .i64 a1, .int .u64 a2, .string a]) (.agg #[.int .i64 b0, .int .i64 b1, .int .u64 b2, .string b])).run Tryz.prog w with
  | ok v w' => cases v <;> simp_all [Result.andThen]
  | _ => simp [Result.andThen]
theorem kres_nil (w : World) : Calls Tryz.prog 11 #[.pointer none] w (Gives (.tuple #[.agg #[.int .i64 0, .int .i64 0, .int .u64 0, .string ⟨#[]⟩], .bool false]) w) := by
  have HB := Lib.hid (fun o => (show Below w.heap.size w (w.alloc o) from (Below.refl _ w).alloc (Nat.le_refl _) o))
  go_enter Tryz.func11, Tryz.ntmps11
  go_wp2
  exact bodyPost_ret (v := .tuple #[.agg #[.int .i64 0, .int .i64 0, .int .u64 0, .string ⟨#[]⟩], .bool false]) (by simp [results, Tryz.results11, go_sem]) rfl ⟨rfl, HB.out _⟩
set_option maxRecDepth 100000 in
set_option maxHeartbeats 1000000 in
/-- Result, of any seek's block. -/
theorem kres_kb {w : World} {q : Nat} {c : Sk.C} {s : Sk.S} {vc vs vr : Value} (h : Kb w q c s vc vs vr) :
    Calls Tryz.prog 11 #[.pointer (some ⟨q, 0, none⟩)] w (Gives (.tuple #[fv s.f, .bool (!eqF (s.f.k : Int) s.f.c (s.f.w : Int) 0 0 0 ⟨s.f.v.toArray⟩ ⟨#[]⟩)]) w) := by
  unfold fv
  have HB := Lib.hid (fun o => (show Below w.heap.size w ((w.alloc o).drew) from ((Below.refl _ w).alloc (Nat.le_refl _) o).drew))
  have q1 := ne_fd (s.f.k : Int) s.f.c (s.f.w : Int) 0 0 0 ⟨s.f.v.toArray⟩ ⟨#[]⟩
  obtain ⟨t, ht⟩ : ∃ t, t = (!eqF (s.f.k : Int) s.f.c (s.f.w : Int) 0 0 0 ⟨s.f.v.toArray⟩ ⟨#[]⟩) := ⟨_, rfl⟩
  rw [← ht] at q1 ⊢
  have HK : Hid (∀ o, Kb (w.alloc o) q c s vc vs vr) := Lib.hid (fun o => h.below ((Below.refl _ w).alloc (Nat.le_refl _) o))
  have c20 : ∀ o, (w.alloc o).cell? ⟨q, 20, none⟩ = some (.int .i64 (s.f.k : Int)) := fun o => (HK.out o).c20
  have c21 : ∀ o, (w.alloc o).cell? ⟨q, 21, none⟩ = some (.int .i64 s.f.c) := fun o => (HK.out o).c21
  have c22 : ∀ o, (w.alloc o).cell? ⟨q, 22, none⟩ = some (.int .u64 (s.f.w : Int)) := fun o => (HK.out o).c22
  have c23 : ∀ o, (w.alloc o).cell? ⟨q, 23, none⟩ = some (.string ⟨s.f.v.toArray⟩) := fun o => (HK.out o).c23
  generalize (s.f.k : Int) = fk at *
  generalize s.f.c = fc at *
  generalize (s.f.w : Int) = fw at *
  generalize (⟨s.f.v.toArray⟩ : ByteArray) = fvv at *
  clear h ht
  go_enter Tryz.func11, Tryz.ntmps11
  go_wp2
  go_region
  all_goals go_wp2
  all_goals exact bodyPost_ret (v := .tuple #[.agg #[.int .i64 fk, .int .i64 fc, .int .u64 fw, .string fvv], .bool t]) (by simp [results, Tryz.results11, go_sem]) rfl ⟨rfl, HB.out _⟩
theorem eqF_z : eqF 0 0 0 0 0 0 ⟨#[]⟩ ⟨#[]⟩ = true := by decide
theorem eqF_k {k : Nat} (h : k ≠ 0) (c w : Int) (v : ByteArray) : eqF (k : Int) c w 0 0 0 v ⟨#[]⟩ = false := by
  unfold eqF
  rw [decide_eq_false (by omega), Bool.false_and]
/-- Result. -/
theorem skres_any {B : Nat} {w : World} {q : Nat} {c : Sk.C} {s : Sk.S} {H : Nat → Prop} (h : Ks B w q c s H) (hs : Sk.Wf c s) :
    Calls Tryz.prog 11 #[.pointer (some ⟨q, 0, none⟩)] w (Gives (.tuple #[fv s.f, .bool (!Sk.more s)]) w) := by
  obtain ⟨hq, vc, vs, vr, hb, -⟩ := h
  have := kres_kb hb
  by_cases hp : s.p = 0
  · rw [eqF_k (hs.fk hp)] at this
    rw [show Sk.more s = false by unfold Sk.more; rw [hp]; rfl]
    exact this
  · rw [hs.fz hp] at this ⊢
    rw [show Sk.more s = true by unfold Sk.more; simpa using hp]
    exact this
end Go.Proofs.YtknefjigdlbacaaGreatDoor
