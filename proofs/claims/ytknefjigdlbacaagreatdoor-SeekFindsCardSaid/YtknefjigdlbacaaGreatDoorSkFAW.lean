/-
  Several texts in one: The walks of what a seek reads of its own cells: its cells in the table, its words, its acts; The walks of toGroup, free, goOn: what leads a seek from a place on. By an AI agent.
-/
import Derived.Test.YtknefjigdlbacaaGreatDoorSkFAV
set_option linter.unusedSimpArgs false
set_option linter.unusedVariables false
namespace Go.Proofs.YtknefjigdlbacaaGreatDoor
open Go.RowKit Go.Maps
open Ac (A)
set_option maxRecDepth 100000 in
set_option maxHeartbeats 2000000 in
theorem kgroup_any {w : World} {q : Nat} {c : Sk.C} {s : Sk.S} {vc vs vr : Value} (h : Kb w q c s vc vs vr) (g0 : -9223372036854775808 ≤ s.g) (g1 : s.g ≤ 9223372036854775807) :
    Calls Tryz.prog 26 #[.pointer (some ⟨q, 0, none⟩)] w (Gives (.int .i64 (Sk.gcell c s)) w) := by
  have HK := Lib.hid (fun W => tgroup_any c.lg s.g W g0 g1)
  have HH := Lib.hid h
  have c7 := h.c7
  have c13 := h.c13
  unfold Sk.gcell
  generalize Tb.gc (Tb.grp c.lg) s.g = r at *
  generalize s.g = g at *
  generalize c.lg = l at *
  clear h g0 g1
  go_enter Tryz.func26, Tryz.ntmps26
  go_wp2
  go_region_with (go_at_call 76; refine (HK.out _).mono ?_; rintro e w2 ⟨rfl, hb2⟩)
  all_goals go_wp2
  all_goals go_ret
  all_goals exact ⟨rfl, ((Below.refl _ w).drew).trans (by simpa using hb2)⟩
set_option maxRecDepth 100000 in
set_option maxHeartbeats 2000000 in
theorem kslot_any {w : World} {q : Nat} {c : Sk.C} {s : Sk.S} {vc vs vr : Value} (h : Kb w q c s vc vs vr) (g0 : -9223372036854775808 ≤ s.g) (g1 : s.g ≤ 9223372036854775807) (hi : s.i ≤ 8) :
    Calls Tryz.prog 31 #[.pointer (some ⟨q, 0, none⟩)] w (Gives (.int .i64 (Sk.scell c s)) w) := by
  have HK := Lib.hid (fun W => tslot_any c.lg s.g s.i W g0 g1 (by omega) (by omega))
  have c7 := h.c7
  have c13 := h.c13
  have c14 := h.c14
  unfold Sk.scell
  generalize Tb.sc (Tb.grp c.lg) s.g s.i = r at *
  generalize s.g = g at *
  generalize s.i = i at *
  generalize c.lg = l at *
  clear h g0 g1 hi
  go_enter Tryz.func31, Tryz.ntmps31
  go_wp2
  go_region_with (go_at_call 82; refine (HK.out _).mono ?_; rintro e w2 ⟨rfl, hb2⟩)
  all_goals go_wp2
  all_goals go_ret
  all_goals exact ⟨rfl, ((Below.refl _ w).drew).trans (by simpa using hb2)⟩
set_option maxRecDepth 100000 in
set_option maxHeartbeats 2000000 in
theorem kclaimed_any {w : World} {q : Nat} {c : Sk.C} {s : Sk.S} {vc vs vr : Value} (h : Kb w q c s vc vs vr) (hh : c.h < 18446744073709551616) (hw : s.w < 18446744073709551616) :
    Calls Tryz.prog 29 #[.pointer (some ⟨q, 0, none⟩)] w (Gives (.int .u64 (Sk.clmd c s : Nat)) w) := by
  have HC := Lib.hid (fun W => claim_any (c.h : Int) W (by omega) (by omega))
  have HK := Lib.hid (fun W => cclaim_any (s.w : Int) (s.i : Int) (Sk.cl c) W (by omega) (by omega))
  rw [← Sk.clmd_int hw] at HK
  unfold Sk.cl at HK
  have c15 := h.c15
  have c14 := h.c14
  have c9 := h.c9
  generalize Sk.clmd c s = r at *
  generalize 128 + (c.h : Int) % 128 = k at *
  generalize c.h = h0 at *
  generalize s.i = i at *
  generalize s.w = ww at *
  clear h hw
  go_enter Tryz.func29, Tryz.ntmps29
  go_wp2
  go_region_held3 (fun w' => w'.cell? ⟨q, 15, none⟩ = some (.int .u64 (ww : Int)) ∧ w'.cell? ⟨q, 14, none⟩ = some (.int .i64 (i : Int)) ∧ w'.cell? ⟨q, 9, none⟩ = some (.int .u64 (h0 : Int)))
    (first | exact ⟨c15, c14, c9⟩ | fail)
    (first | (go_at_call 81; refine (HC.out _).mono ?_; rintro e w2 ⟨rfl, rfl⟩) | (go_at_call 80; refine (HK.out _).mono ?_; rintro e w2 ⟨rfl, rfl⟩) | fail)
  go_wp2
  go_ret
  exact ⟨rfl, (Below.refl _ w).drew⟩
set_option maxHeartbeats 1000000 in
theorem klaid_any {w : World} {q : Nat} {c : Sk.C} {s : Sk.S} {vc vs vr : Value} (h : Kb w q c s vc vs vr) (hl : c.lay < 18446744073709551616) :
    Calls Tryz.prog 32 #[.pointer (some ⟨q, 0, none⟩)] w (Same (.int .u64 (Sk.laidw c : Nat)) w) := by
  have HK := Lib.hid (fun W => tgmake_any (c.lay : Int) 1 W (by omega) (by omega) (by omega) (by omega))
  have c10 := h.c10
  have e : Tg.mk (c.lay : Int) 1 = ((Sk.laidw c : Nat) : Int) := by unfold Tg.mk Sk.laidw; omega
  rw [e] at HK
  generalize Sk.laidw c = r at *
  generalize c.lay = k at *
  clear h e hl
  go_enter Tryz.func32, Tryz.ntmps32
  go_wp2_with fail
  with_reducible refine (HK.out _).mono ?_
  rintro e w1 ⟨rfl, rfl⟩
  go_wp2
  go_ret
  exact ⟨rfl, rfl⟩
set_option maxHeartbeats 1000000 in
theorem kload_any {w : World} {q : Nat} {c : Sk.C} {s : Sk.S} {vc vs vr : Value} (h : Kb w q c s vc vs vr) (i : Int) :
    Calls Tryz.prog 25 #[.pointer (some ⟨q, 0, none⟩), .int .i64 i] w (Gives (av ⟨1, c.b, i, 0, 0⟩) w) := by
  have c6 : ∀ o, (w.alloc o).cell? ⟨q, 6, none⟩ = some (.int .u64 (c.b : Int)) := fun o => (h.below ((Below.refl _ w).alloc (Nat.le_refl _) o)).c6
  generalize c.b = b at *
  clear h
  go_enter Tryz.func25, Tryz.ntmps25
  go_wp2
  exact bodyPost_ret (v := av ⟨1, b, i, 0, 0⟩) (by simp [results, Tryz.results25, go_sem]) rfl ⟨rfl, (Below.refl _ w).alloc (Nat.le_refl _) _⟩
set_option maxHeartbeats 1000000 in
theorem kcas_any {w : World} {q : Nat} {c : Sk.C} {s : Sk.S} {vc vs vr : Value} (h : Kb w q c s vc vs vr) (i : Int) (o n : Nat) :
    Calls Tryz.prog 28 #[.pointer (some ⟨q, 0, none⟩), .int .i64 i, .int .u64 (o : Int), .int .u64 (n : Int)] w (Gives (av ⟨3, c.b, i, o, n⟩) w) := by
  have c6 : ∀ o, (w.alloc o).cell? ⟨q, 6, none⟩ = some (.int .u64 (c.b : Int)) := fun o => (h.below ((Below.refl _ w).alloc (Nat.le_refl _) o)).c6
  generalize c.b = b at *
  clear h
  go_enter Tryz.func28, Tryz.ntmps28
  go_wp2
  exact bodyPost_ret (v := av ⟨3, b, i, o, n⟩) (by simp [results, Tryz.results28, go_sem]) rfl ⟨rfl, (Below.refl _ w).alloc (Nat.le_refl _) _⟩
end Go.Proofs.YtknefjigdlbacaaGreatDoor
set_option linter.unusedSimpArgs false
set_option linter.unusedVariables false
namespace Go.Proofs.YtknefjigdlbacaaGreatDoor
open Go.RowKit Go.Maps
open Ac (A)
theorem kend_z {w : World} {q : Nat} {c : Sk.C} {s : Sk.S} {vc vs vr : Value} (h : Kb w q c s vc vs vr) (k : Nat) :
    Calls Tryz.prog 74 #[.pointer (some ⟨q, 0, none⟩), .agg #[.int .i64 (k : Int), .int .i64 0, .int .u64 0, .string ⟨#[]⟩]] w (Ends q c (Sk.fin s ⟨k, 0, 0, []⟩) vc vs vr (.tuple #[]) w) := kend_any h k 0 0 ⟨#[]⟩
set_option maxHeartbeats 1000000 in
theorem kboxless_any {w : World} {q : Nat} {c : Sk.C} {s : Sk.S} {vc vs vr : Value} (h : Kb w q c s vc vs vr) (v : Nat) :
    Calls Tryz.prog 92 #[.pointer (some ⟨q, 0, none⟩), .int .u64 (v : Int)] w (Ends q c (if v = 5 then Sk.fin s ⟨4, 0, 0, []⟩ else s) vc vs vr (.bool (decide (v ≠ 5))) w) := by
  have HK := Lib.hid (fun W => tgmake_any 0 5 W (by omega) (by omega) (by omega) (by omega))
  rw [show Tg.mk 0 5 = 5 from rfl] at HK
  have HE := Lib.hid (fun (n : Nat) (x : Int) (hx : (n : Int) = x) => (hx ▸ kend_z h n : Calls Tryz.prog 74 #[.pointer (some ⟨q, 0, none⟩), .agg #[.int .i64 x, .int .i64 0, .int .u64 0, .string ⟨#[]⟩]] w (Ends q c (Sk.fin s ⟨n, 0, 0, []⟩) vc vs vr (.tuple #[]) w)))
  have HH := Lib.hid h
  clear h
  by_cases hv : v = 5
  · rw [if_pos hv, hv]
    clear hv
    have KE := Lib.hid (HE.out 4 4 rfl); clear HE
    go_enter Tryz.func92, Tryz.ntmps92
    go_wp2_with fail
    with_reducible refine (HK.out _).mono ?_
    rintro e w1 ⟨rfl, rfl⟩
    go_wp2_with fail
    with_reducible refine KE.out.mono ?_
    rintro e w1 ⟨rfl, h1, h2⟩
    have H1 := Lib.hid h1; have H2 := Lib.hid h2; clear h1 h2
    go_wp2
    go_ret
    exact ⟨rfl, H1.out, H2.out⟩
  · rw [if_neg hv, decide_eq_true (show v ≠ 5 from hv)]
    have e1 : ((v : Int) == 5) = false := by simp; omega
    have HV := Lib.hid hv
    clear hv
    go_enter Tryz.func92, Tryz.ntmps92
    go_wp2_with fail
    with_reducible refine (HK.out _).mono ?_
    rintro e w1 ⟨rfl, rfl⟩
    go_wp2
    go_ret
    exact ⟨rfl, HH.out, Chg.refl q w⟩
set_option maxRecDepth 100000 in
set_option maxHeartbeats 2000000 in
theorem ktoG_any {w : World} {q : Nat} {c : Sk.C} {s : Sk.S} {vc vs vr : Value} (h : Kb w q c s vc vs vr) (n : Nat) (hh : c.h < 18446744073709551616) :
    Calls Tryz.prog 22 #[.pointer (some ⟨q, 0, none⟩), .int .i64 (n : Int)] w (Ends q c (Sk.toG c s n) vc vs vr (.tuple #[]) w) := by
  have HG := Lib.hid (fun W => group_any c.h (by omega) c.lg n W)
  have c9 := (h.below (Below.refl _ w).drew).c9
  have c7 := (h.below (Below.refl _ w).drew).c7
  have HH := Lib.hid h
  have HL := Lib.hid h.lt
  obtain ⟨s1, hs1⟩ : ∃ s1 : Sk.S, s1 = { s with n := n, g := Rt.gp c.h c.lg n } := ⟨_, rfl⟩
  have HS : Hid (∀ W, Below w.heap.size w.drew W → (∃ s' a b d, Kb W q c s' a b d) ∧ (∃ s' a b d, Kb (W.setCell ⟨q, 12, none⟩ (.int .i64 (n : Int))) q c s' a b d) ∧ Kb ((W.setCell ⟨q, 12, none⟩ (.int .i64 (n : Int))).setCell ⟨q, 13, none⟩ (.int .i64 (Rt.gp c.h c.lg n))) q c s1 vc vs vr ∧ Chg q w ((W.setCell ⟨q, 12, none⟩ (.int .i64 (n : Int))).setCell ⟨q, 13, none⟩ (.int .i64 (Rt.gp c.h c.lg n)))) := Lib.hid (fun W hb => by
    have hb2 : Below w.heap.size w W := (Below.refl _ w).drew.trans hb
    have h0 := h.below hb2
    have h1 := h0.st (s' := { s with n := n }) (vc' := vc) (vs' := vs) (vr' := vr) 12 (.int .i64 (n : Int)) rfl
    have h2 := h1.st (s' := s1) (vc' := vc) (vs' := vs) (vr' := vr) 13 (.int .i64 (Rt.gp c.h c.lg n)) (by rw [hs1]; rfl)
    exact ⟨⟨_, _, _, _, h0⟩, ⟨_, _, _, _, h1⟩, h2, ((show Chg q w W from Tn.of_below hb2).set 12 _ h0.lt).set 13 _ h1.lt⟩)
  have HF : Hid (∀ W, Below w.heap.size w.drew W → (W.frozen? ⟨q, 12, none⟩ = false ∧ W.frozen? ⟨q, 13, none⟩ = false) ∧ W.cell? ⟨q, 12, none⟩ = some (.int .i64 (s.n : Int)) ∧ W.cell? ⟨q, 13, none⟩ = some (.int .i64 s.g)) := Lib.hid (fun W hb => by
    have h0 := h.below ((Below.refl _ w).drew.trans hb)
    exact ⟨⟨h0.fz _, h0.fz _⟩, h0.c12, h0.c13⟩)
  have HT : Hid (Sk.toG c s n = if 0 ≤ Rt.gp c.h c.lg n then { s1 with p := 1 } else if c.lay = 0 then Sk.fin s1 ⟨1, 0, 0, []⟩ else Sk.fin s1 ⟨5, 0, 0, []⟩) := Lib.hid (by rw [hs1]; rfl)
  have hg1 : s1.g = Rt.gp c.h c.lg n := by rw [hs1]
  generalize Sk.toG c s n = r at *
  generalize hgg : Rt.gp c.h c.lg n = g at *
  clear h hs1 hh hgg
  go_enter Tryz.func22, Tryz.ntmps22
  go_wp2
  refine wp_region_held_drew (S := fun w' => ∃ s' a b d, Kb w' q c s' a b d) (by kernel_rfl) ⟨_, _, _, _, HH.out.below (Below.refl _ w).drew⟩ (fun hS => ?_)
  refine wpAnyH_take (i := 0) (v := .pointer (some ⟨q, 0, none⟩)) rfl (by kernel_rfl) (by kernel_rfl) (by kernel_rfl) (fun _ _ _ h => h) (Or.inl ⟨by kernel_rfl, fun w hS => by kernel_rfl⟩) hS ?_
  refine wpAnyH_take (i := 1) (v := .pointer (some ⟨q, 0, none⟩)) rfl (by kernel_rfl) (by kernel_rfl) (by kernel_rfl) (fun _ _ _ h => h) (Or.inl ⟨by kernel_rfl, fun w hS => by kernel_rfl⟩) hS ?_
  refine wpAnyH_take (i := 2) (v := .int .i64 (n : Int)) rfl (by kernel_rfl) (by kernel_rfl) (by kernel_rfl) (fun _ _ _ h => h) (Or.inl ⟨by kernel_rfl, fun w hS => by kernel_rfl⟩) hS ?_
  refine wpAnyH_take (i := 3) (v := .pointer (some ⟨q, 0, none⟩)) rfl (by kernel_rfl) (by kernel_rfl) (by kernel_rfl) (fun _ _ _ h => h) (Or.inl ⟨by kernel_rfl, fun w hS => by kernel_rfl⟩) hS ?_
  refine wpAnyH_take (i := 4) (v := .pointer (some ⟨q, 0, none⟩)) rfl (by kernel_rfl) (by kernel_rfl) (by kernel_rfl) (fun _ _ _ h => h) (Or.inl ⟨by kernel_rfl, fun w hS => by kernel_rfl⟩) hS ?_
  refine wpAnyH_take (i := 5) (v := .pointer (some ⟨q, 9, none⟩)) rfl (by kernel_rfl) (by kernel_rfl) (by kernel_rfl) (fun _ _ _ h => h) (Or.inl ⟨by kernel_rfl, fun w hS => by kernel_rfl⟩) hS ?_
  refine wpAnyH_take (i := 6) (v := .int .u64 (c.h : Int)) rfl (by kernel_rfl) (by kernel_rfl) (by kernel_rfl) (fun _ _ _ h => h) (Or.inl ⟨by kernel_rfl, fun w hS => by obtain ⟨s', _, _, _, hk⟩ := hS; have k9 := hk.c9; have k7 := hk.c7; go_simp⟩) hS ?_
  refine wpAnyH_take (i := 7) (v := .pointer (some ⟨q, 0, none⟩)) rfl (by kernel_rfl) (by kernel_rfl) (by kernel_rfl) (fun _ _ _ h => h) (Or.inl ⟨by kernel_rfl, fun w hS => by kernel_rfl⟩) hS ?_
  refine wpAnyH_take (i := 8) (v := .pointer (some ⟨q, 0, none⟩)) rfl (by kernel_rfl) (by kernel_rfl) (by kernel_rfl) (fun _ _ _ h => h) (Or.inl ⟨by kernel_rfl, fun w hS => by kernel_rfl⟩) hS ?_
  refine wpAnyH_take (i := 9) (v := .pointer (some ⟨q, 6, none⟩)) rfl (by kernel_rfl) (by kernel_rfl) (by kernel_rfl) (fun _ _ _ h => h) (Or.inl ⟨by kernel_rfl, fun w hS => by kernel_rfl⟩) hS ?_
  refine wpAnyH_take (i := 10) (v := .pointer (some ⟨q, 7, none⟩)) rfl (by kernel_rfl) (by kernel_rfl) (by kernel_rfl) (fun _ _ _ h => h) (Or.inl ⟨by kernel_rfl, fun w hS => by kernel_rfl⟩) hS ?_
  refine wpAnyH_take (i := 11) (v := .int .i64 c.lg) rfl (by kernel_rfl) (by kernel_rfl) (by kernel_rfl) (fun _ _ _ h => h) (Or.inl ⟨by kernel_rfl, fun w hS => by obtain ⟨s', _, _, _, hk⟩ := hS; have k9 := hk.c9; have k7 := hk.c7; go_simp⟩) hS ?_
  refine wpAnyH_take (i := 12) (v := .int .i64 (n : Int)) rfl (by kernel_rfl) (by kernel_rfl) (by kernel_rfl) (fun _ _ _ h => h) (Or.inl ⟨by kernel_rfl, fun w hS => by kernel_rfl⟩) hS ?_
  refine wpAnyH_ready (rs := [13]) (by kernel_rfl) (by simp) ?_
  refine AllReadyH.cons rfl (fun K hK => ?_) AllReadyH.nil
  go_simp
  go_at_call 73
  refine (HG.out _).mono ?_
  rintro e w1 ⟨rfl, hb1⟩
  obtain ⟨⟨F1, F2⟩, F3, F4⟩ := HF.out w1 hb1
  obtain ⟨A1, A2, A3⟩ := HS.out w1 hb1
  have HA1 := Lib.hid A1; have HA2 := Lib.hid A2; have HA3 := Lib.hid A3
  clear A1 A2 A3 hb1
  refine hK.out _ _ (HA1.out) (fun hS => ?_)
  clear hK K
  refine wpAnyH_take (i := 14) (v := .pointer (some ⟨q, 0, none⟩)) rfl (by kernel_rfl) (by kernel_rfl) (by kernel_rfl) (fun _ _ _ h => h) (Or.inl ⟨by kernel_rfl, fun w hS => by kernel_rfl⟩) hS ?_
  refine wpAnyH_take (i := 15) (v := .pointer (some ⟨q, 12, none⟩)) rfl (by kernel_rfl) (by kernel_rfl) (by kernel_rfl) (fun _ _ _ h => h) (Or.inl ⟨by kernel_rfl, fun w hS => by kernel_rfl⟩) hS ?_
  refine wpAnyH_ready (rs := [16]) (by kernel_rfl) (by simp) ?_
  refine AllReadyH.cons rfl (fun K hK => ?_) AllReadyH.nil
  go_simp
  refine hK.out _ _ HA2.out (fun hS => ?_)
  clear hK K
  refine wpAnyH_take (i := 17) (v := .pointer (some ⟨q, 0, none⟩)) rfl (by kernel_rfl) (by kernel_rfl) (by kernel_rfl) (fun _ _ _ h => h) (Or.inl ⟨by kernel_rfl, fun w hS => by kernel_rfl⟩) hS ?_
  refine wpAnyH_take (i := 18) (v := .pointer (some ⟨q, 13, none⟩)) rfl (by kernel_rfl) (by kernel_rfl) (by kernel_rfl) (fun _ _ _ h => h) (Or.inl ⟨by kernel_rfl, fun w hS => by kernel_rfl⟩) hS ?_
  refine wpAnyH_ready (rs := [19]) (by kernel_rfl) (by simp) ?_
  refine AllReadyH.cons rfl (fun K hK => ?_) AllReadyH.nil
  go_simp
  refine hK.out _ _ ⟨_, _, _, _, HA3.out.1⟩ (fun hS => ?_)
  clear hK K
  refine wpAnyH_done (by kernel_rfl) ?_ _
  have c13 := HA3.out.1.c13
  have c10 := HA3.out.1.c10
  have f0 := HA3.out.1.fz 0
  have c0 := HA3.out.1.c0
  rw [hg1] at c13
  obtain ⟨W, hW⟩ : ∃ W, W = (w1.setCell ⟨q, 12, none⟩ (.int .i64 (n : Int))).setCell ⟨q, 13, none⟩ (.int .i64 g) := ⟨_, rfl⟩
  rw [← hW] at HA3 c13 c10 f0 c0 ⊢
  clear hW F1 F2 F3 F4 HA1 HA2 hS HS HF HH HG c9 c7
  have HE := Lib.hid (fun (n : Nat) (x : Int) (hx : (n : Int) = x) => (hx ▸ kend_z HA3.out.1 n : Calls Tryz.prog 74 #[.pointer (some ⟨q, 0, none⟩), .agg #[.int .i64 x, .int .i64 0, .int .u64 0, .string ⟨#[]⟩]] W (Ends q c (Sk.fin s1 ⟨n, 0, 0, []⟩) vc vs vr (.tuple #[]) W)))
  by_cases hg : 0 ≤ g
  · have HT1 := HT.out
    rw [if_pos hg] at HT1
    have HR := Lib.hid HT1
    have K1 := Lib.hid (HA3.out.1.st (s' := { s1 with p := 1 }) (vc' := vc) (vs' := vs) (vr' := vr) 0 (.int .i64 1) rfl)
    have K2 := Lib.hid (HA3.out.2.set 0 (.int .i64 1) HA3.out.1.lt)
    clear HT1 HT HE
    go_wp2
    refine bodyPost_end (results_none rfl _ _ _) rfl ?_
    exact ⟨rfl, by rw [HR.out]; exact K1.out, K2.out⟩
  · have HT1 := HT.out
    rw [if_neg hg] at HT1
    by_cases hl : c.lay = 0
    · rw [if_pos hl] at HT1
      have HR := Lib.hid HT1
      have e1 : ((c.lay : Int) == 0) = true := by simp; omega
      have KE := Lib.hid (HE.out 1 1 rfl)
      clear HT1 HT HE hl
      go_wp2_with fail
      with_reducible refine KE.out.mono ?_
      rintro e w2 ⟨rfl, h1, h2⟩
      have H1 := Lib.hid h1; have H2 := Lib.hid (HA3.out.2.trans h2); clear h1 h2
      go_wp2
      refine bodyPost_end (results_none rfl _ _ _) rfl ?_
      exact ⟨rfl, by rw [HR.out]; exact H1.out, H2.out⟩
    · rw [if_neg hl] at HT1
      have HR := Lib.hid HT1
      have e1 : ((c.lay : Int) == 0) = false := by simp; omega
      have KE := Lib.hid (HE.out 5 5 rfl)
      clear HT1 HT HE hl
      go_wp2_with fail
      with_reducible refine KE.out.mono ?_
      rintro e w2 ⟨rfl, h1, h2⟩
      have H1 := Lib.hid h1; have H2 := Lib.hid (HA3.out.2.trans h2); clear h1 h2
      go_wp2
      refine bodyPost_end (results_none rfl _ _ _) rfl ?_
      exact ⟨rfl, by rw [HR.out]; exact H1.out, H2.out⟩
end Go.Proofs.YtknefjigdlbacaaGreatDoor
