/-
  Several texts in one: The walk of a shield's New; The walk of a shield's Act; The walks of hear, open, examine, told: what leads a seek on behind an answer. By an AI agent.
-/
import Derived.Test.YtknefjigdlbacaaGreatDoorSkGAL
import Derived.Test.YtknefjigdlbacaaGreatDoorSkGAU
import Derived.BigQuiet
set_option linter.unusedSimpArgs false
set_option linter.unusedVariables false
namespace Go.Proofs.YtknefjigdlbacaaGreatDoor
open Go.RowKit Go.Maps
open Ac (A)
/-- A new shield. -/
def Snew (s : Sh.S) (d : Nat) (c : Int) (b : Nat) (i : Int) (w : World) (e : Ending) (w' : World) : Prop := ∃ q, e = .returned (.pointer (some ⟨q, 0, none⟩)) ∧ w.heap.size ≤ q ∧ Sb w' q s d c b i ∧ Below w.heap.size w w'
set_option maxRecDepth 100000 in
set_option maxHeartbeats 4000000 in
theorem snew_no (d t n k s b i v : Int) (w : World) (h : Bd w) (hr : Dk.right d t n k = false ∨ i < 0) : Calls Tryz.prog 130 #[.agg #[.int .u64 d, .int .i64 t, .int .i64 n, .int .i64 k, .int .u64 s], .int .u64 b, .int .i64 i, .int .u64 v] w (Snew ⟨0, 0⟩ 0 0 0 0 w) := by
  have HB := Lib.hid (sboxed_below w d t n k s)
  have KR := dright_any d t n k s (sboxed w d t n k s) (h.below HB.out)
  clear h
  cases hc : Dk.right d t n k with
  | false =>
    rw [hc] at KR
    have KR := Lib.hid KR
    clear hr hc
    go_enter Tryz.func130, Tryz.ntmps130
    go_wp2_with fail
    with_reducible refine KR.out.mono ?_
    rintro e w1 ⟨rfl, hb⟩
    have HB1 := Lib.hid (HB.out.trans (hb.mono HB.out.size))
    clear hb KR
    go_wp2
    go_ret
    exact ⟨w1.heap.size, rfl, HB1.out.size, heap_alloc_new w1 _, HB1.out.trans (((Below.refl _ w1).alloc (Nat.le_refl _) _).mono HB1.out.size)⟩
  | true =>
    rw [hc] at KR
    have KR := Lib.hid KR
    have hi : i < 0 := by rcases hr with e | e; rw [hc] at e; cases e; exact e
    clear hr hc
    go_enter Tryz.func130, Tryz.ntmps130
    go_wp2_with fail
    with_reducible refine KR.out.mono ?_
    rintro e w1 ⟨rfl, hb⟩
    have HB1 := Lib.hid (HB.out.trans (hb.mono HB.out.size))
    clear hb KR
    go_wp2
    go_ret
    exact ⟨w1.heap.size, rfl, HB1.out.size, heap_alloc_new w1 _, HB1.out.trans (((Below.refl _ w1).alloc (Nat.le_refl _) _).mono HB1.out.size)⟩
set_option maxRecDepth 100000 in
set_option maxHeartbeats 4000000 in
theorem snew_yes (d : Nat) (t n k s : Int) (b : Nat) (i : Int) (v : Nat) (w : World) (h : Bd w) (hr : Dk.right d t n k = true) (hi : 0 ≤ i) (hv : v < 18446744073709551616) : Calls Tryz.prog 130 #[.agg #[.int .u64 (d : Int), .int .i64 t, .int .i64 n, .int .i64 k, .int .u64 s], .int .u64 (b : Int), .int .i64 i, .int .u64 (v : Int)] w (Snew (Sh.new v) d (Dk.box t) b i w) := by
  have HB := Lib.hid (sboxed_below w d t n k s)
  have KR := dright_any d t n k s (sboxed w d t n k s) (h.below HB.out)
  rw [hr] at KR
  have KR := Lib.hid KR
  have HBD := Lib.hid (h.below HB.out)
  clear h hr
  have KT := Lib.hid (fun W (hb : Bd W) => dbox_any t W hb)
  generalize Dk.box t = c at *
  have HC := Lib.hid (fun W hb => (sboxed_cells (w := w) (w' := W) (d := d) (t := t) (n := n) (k := k) (s := s) hb))
  have HF := Lib.hid (fun W => freshn v W hv)
  have hi1 : ¬ i < 0 := by omega
  clear hi
  have HT : Hid (∀ (W : World) (q : Nat) (x : Bool), Sb W q ⟨0, 0⟩ d c b i → Calls Tryz.prog 88 #[.pointer (some ⟨q, 0, none⟩), .int .u64 (v : Int), .bool x] W fun e w' => e = .returned (.tuple #[]) ∧ Sb w' q (Sh.told v x) d c b i ∧ Chg q W w') := Lib.hid (fun W q x hs => told_any hs v x)
  unfold Sh.new
  generalize Sh.fr v = x at *
  clear hv
  go_enter Tryz.func130, Tryz.ntmps130
  go_wp2_with fail
  with_reducible refine KR.out.mono ?_
  rintro e w1 ⟨rfl, hb⟩
  have HB1 := Lib.hid (HB.out.trans (hb.mono HB.out.size))
  obtain ⟨d0, d1, -, -, -⟩ := HC.out w1 hb
  have K1 := Lib.hid (KT.out w1.drew ((HBD.out.below hb).below (Below.refl _ w1).drew))
  clear hb KR HC KT HBD
  obtain ⟨z, hz⟩ : ∃ z, z = w.heap.size := ⟨_, rfl⟩
  have HZ := Lib.hid hz
  rw [← hz] at d0 d1 ⊢
  clear hz
  go_wp2_with fail
  go_region_with (go_at_call 154; refine K1.out.mono ?_; rintro e w2 ⟨rfl, rfl⟩)
  all_goals
    have hg : Sb (w1.drew.alloc (.cells #[.int .i64 0, .int .u64 (d : Int), .int .i64 c, .int .u64 0, .int .u64 (b : Int), .int .i64 i] 124)) w1.heap.size ⟨0, 0⟩ d c b i := heap_alloc_new w1.drew _
    have hb2 : Below w.heap.size w (w1.drew.alloc (.cells #[.int .i64 0, .int .u64 (d : Int), .int .i64 c, .int .u64 0, .int .u64 (b : Int), .int .i64 i] 124)) := HB1.out.trans (((Below.refl _ w1).drew.alloc (Nat.le_refl _) _).mono HB1.out.size)
    have hq : w.heap.size ≤ w1.heap.size := HB1.out.size
    have HG2 := Lib.hid hg
    have HB2 := Lib.hid hb2
    have HQ := Lib.hid hq
    clear hg hb2 hq K1 d0 d1
    go_wp2_with fail
    with_reducible refine (HF.out _).mono ?_
    rintro e w3 ⟨rfl, hb3⟩
    have HG3 := Lib.hid (HG2.out.below hb3)
    have HB3 := Lib.hid (HB2.out.trans (hb3.mono HB2.out.size))
    have K4 := Lib.hid (HT.out _ _ x HG3.out)
    clear hb3 HG2 HB2
    go_wp2_with fail
    with_reducible refine K4.out.mono ?_
    rintro e w4 ⟨rfl, hg4, ht4⟩
    have HG4 := Lib.hid hg4
    have HB4 := Lib.hid (HB3.out.trans (ht4.below (fun j hj => by rw [hj]; exact HQ.out) HB3.out.size))
    clear hg4 ht4 K4
    go_wp2
    go_ret
    exact ⟨_, rfl, HQ.out, HG4.out, by have := HB4.out; rwa [HZ.out] at *⟩
end Go.Proofs.YtknefjigdlbacaaGreatDoor
set_option linter.unusedSimpArgs false
set_option linter.unusedVariables false
namespace Go.Proofs.YtknefjigdlbacaaGreatDoor
open Go.RowKit Go.Maps
open Ac (A)
/-! ### Act -/
theorem sact_nil (w : World) : Calls Tryz.prog 33 #[.pointer none] w (Gives (.tuple #[av ⟨0, 0, 0, 0, 0⟩, .bool false]) w) := by
  go_enter Tryz.func33, Tryz.ntmps33
  go_wp2
  exact bodyPost_ret (v := .tuple #[av ⟨0, 0, 0, 0, 0⟩, .bool false]) (by simp [results, Tryz.results33, go_sem]) rfl ⟨rfl, (Below.refl _ w).alloc (Nat.le_refl _) _⟩
set_option maxRecDepth 100000 in
set_option maxHeartbeats 4000000 in
theorem sact_any {w : World} {q d b : Nat} {c i : Int} {s : Sh.S} (h : Sb w q s d c b i) (hp : s.p ≤ 3) (hr : s.r < 18446744073709551616) : Calls Tryz.prog 33 #[.pointer (some ⟨q, 0, none⟩)] w (Gives (.tuple #[av (Sh.act d c b i s), .bool (Sh.more s)]) w) := by
  have hb : ∀ o, Below w.heap.size w (w.alloc o) := fun o => (Below.refl _ w).alloc (Nat.le_refl _) _
  have c0 := fun o => (h.below (hb o)).c0
  have c1 := fun o => (h.below (hb o)).c1
  have c2 := fun o => (h.below (hb o)).c2
  have c3 := fun o => (h.below (hb o)).c3
  have c4 := fun o => (h.below (hb o)).c4
  have c5 := fun o => (h.below (hb o)).c5
  obtain ⟨p, r⟩ := s
  dsimp only at c0 c1 c2 c3 hp hr
  have HB := Lib.hid hb; clear hb
  have HH := Lib.hid h; clear h
  have HK := Lib.hid (fun W => blockn r W hr)
  have HL := Lib.hid (fun W => sload_slot (b : Int) i W)
  obtain rfl | rfl | rfl | rfl : p = 0 ∨ p = 1 ∨ p = 2 ∨ p = 3 := by omega
  · rw [show Sh.act d c b i ⟨0, r⟩ = ⟨0, 0, 0, 0, 0⟩ from rfl, show Sh.more ⟨0, r⟩ = false from rfl]
    rw [show ((0 : Nat) : Int) = 0 from rfl] at c0
    go_enter Tryz.func33, Tryz.ntmps33
    go_wp2
    exact bodyPost_ret (v := .tuple #[av ⟨0, 0, 0, 0, 0⟩, .bool false]) (by simp [results, Tryz.results33, go_sem]) rfl ⟨rfl, HB.out _⟩
  · rw [show Sh.act d c b i ⟨1, r⟩ = ⟨2, d, c, 0, r / 8⟩ from rfl, show Sh.more ⟨1, r⟩ = true from rfl]
    rw [show ((1 : Nat) : Int) = 1 from rfl] at c0
    go_enter Tryz.func33, Tryz.ntmps33
    go_wp2
    have HD := Lib.hid ((HB.out (.cells #[.int .i64 0, .int .u64 0, .int .i64 0, .int .u64 0, .int .u64 0] 35)).drew)
    clear c0 c1 c2 c3 c4 c5
    refine wp_region_held_drew (S := fun w' => w'.cell? ⟨q, 1, none⟩ = some (.int .u64 (d : Int)) ∧ w'.cell? ⟨q, 2, none⟩ = some (.int .i64 c) ∧ w'.cell? ⟨q, 3, none⟩ = some (.int .u64 (r : Int))) (by kernel_rfl) ⟨(HH.out.below HD.out).c1, (HH.out.below HD.out).c2, (HH.out.below HD.out).c3⟩ (fun hS => ?_)
    refine wpAnyH_take (i := 0) (v := .pointer (some ⟨q, 0, none⟩)) rfl (by kernel_rfl) (by kernel_rfl) (by kernel_rfl) (fun _ _ _ h => h) (Or.inl ⟨by kernel_rfl, fun w hS => by kernel_rfl⟩) hS ?_
    refine wpAnyH_take (i := 1) (v := .pointer (some ⟨q, 0, none⟩)) rfl (by kernel_rfl) (by kernel_rfl) (by kernel_rfl) (fun _ _ _ h => h) (Or.inl ⟨by kernel_rfl, fun w hS => by kernel_rfl⟩) hS ?_
    refine wpAnyH_take (i := 2) (v := .pointer (some ⟨q, 1, none⟩)) rfl (by kernel_rfl) (by kernel_rfl) (by kernel_rfl) (fun _ _ _ h => h) (Or.inl ⟨by kernel_rfl, fun w hS => by kernel_rfl⟩) hS ?_
    refine wpAnyH_take (i := 3) (v := .int .u64 (d : Int)) rfl (by kernel_rfl) (by kernel_rfl) (by kernel_rfl) (fun _ _ _ h => h) (Or.inl ⟨by kernel_rfl, fun w hS => by obtain ⟨s1, s2, s3⟩ := hS; go_simp⟩) hS ?_
    refine wpAnyH_take (i := 4) (v := .pointer (some ⟨q, 0, none⟩)) rfl (by kernel_rfl) (by kernel_rfl) (by kernel_rfl) (fun _ _ _ h => h) (Or.inl ⟨by kernel_rfl, fun w hS => by kernel_rfl⟩) hS ?_
    refine wpAnyH_take (i := 5) (v := .pointer (some ⟨q, 0, none⟩)) rfl (by kernel_rfl) (by kernel_rfl) (by kernel_rfl) (fun _ _ _ h => h) (Or.inl ⟨by kernel_rfl, fun w hS => by kernel_rfl⟩) hS ?_
    refine wpAnyH_take (i := 6) (v := .pointer (some ⟨q, 2, none⟩)) rfl (by kernel_rfl) (by kernel_rfl) (by kernel_rfl) (fun _ _ _ h => h) (Or.inl ⟨by kernel_rfl, fun w hS => by kernel_rfl⟩) hS ?_
    refine wpAnyH_take (i := 7) (v := .int .i64 c) rfl (by kernel_rfl) (by kernel_rfl) (by kernel_rfl) (fun _ _ _ h => h) (Or.inl ⟨by kernel_rfl, fun w hS => by obtain ⟨s1, s2, s3⟩ := hS; go_simp⟩) hS ?_
    refine wpAnyH_take (i := 8) (v := .pointer (some ⟨q, 0, none⟩)) rfl (by kernel_rfl) (by kernel_rfl) (by kernel_rfl) (fun _ _ _ h => h) (Or.inl ⟨by kernel_rfl, fun w hS => by kernel_rfl⟩) hS ?_
    refine wpAnyH_take (i := 9) (v := .pointer (some ⟨q, 0, none⟩)) rfl (by kernel_rfl) (by kernel_rfl) (by kernel_rfl) (fun _ _ _ h => h) (Or.inl ⟨by kernel_rfl, fun w hS => by kernel_rfl⟩) hS ?_
    refine wpAnyH_take (i := 10) (v := .pointer (some ⟨q, 3, none⟩)) rfl (by kernel_rfl) (by kernel_rfl) (by kernel_rfl) (fun _ _ _ h => h) (Or.inl ⟨by kernel_rfl, fun w hS => by kernel_rfl⟩) hS ?_
    refine wpAnyH_take (i := 11) (v := .int .u64 (r : Int)) rfl (by kernel_rfl) (by kernel_rfl) (by kernel_rfl) (fun _ _ _ h => h) (Or.inl ⟨by kernel_rfl, fun w hS => by obtain ⟨s1, s2, s3⟩ := hS; go_simp⟩) hS ?_
    refine wpAnyH_ready (rs := [12]) (by kernel_rfl) (by simp) ?_
    refine AllReadyH.cons rfl (fun K hK => ?_) AllReadyH.nil
    go_simp
    go_at_call 84
    refine (HK.out _).mono ?_
    rintro e w1 ⟨rfl, hb1⟩
    obtain ⟨⟨g0, g1, g2, g3, g4⟩, ⟨e0, e1, e2, e3, e4⟩, hbb⟩ := abox (((Below.refl _ _).drew).trans (hb1.mono (Nat.le_refl _)))
    have HBB := Lib.hid hbb
    have HE := Lib.hid (HD.out.trans (hb1.mono HD.out.size))
    clear hbb hb1
    refine hK.out _ _ ⟨(HH.out.below HE.out).c1, (HH.out.below HE.out).c2, (HH.out.below HE.out).c3⟩ (fun hS => ?_)
    clear hK K
    refine wpAnyH_take (i := 13) (v := .agg #[.int .i64 2, .int .u64 (d : Int), .int .i64 c, .int .u64 0, .int .u64 ((r / 8 : Nat) : Int)]) rfl (by kernel_rfl) (by kernel_rfl) (by kernel_rfl) (fun _ _ _ h => h) (Or.inl ⟨by kernel_rfl, fun w hS => by kernel_rfl⟩) hS ?_
    refine wpAnyH_ready (rs := [14]) (by kernel_rfl) (by simp) ?_
    refine AllReadyH.cons rfl (fun K hK => ?_) AllReadyH.nil
    go_simp
    refine hK.out _ _ ⟨(HH.out.below (HBB.out _ _ _ _ _)).c1, (HH.out.below (HBB.out _ _ _ _ _)).c2, (HH.out.below (HBB.out _ _ _ _ _)).c3⟩ (fun hS => ?_)
    clear hK K
    refine wpAnyH_take (i := 15) (v := .bool true) rfl (by kernel_rfl) (by kernel_rfl) (by kernel_rfl) (fun _ _ _ h => h) (Or.inl ⟨by kernel_rfl, fun w hS => by kernel_rfl⟩) hS ?_
    refine wpAnyH_done (by kernel_rfl) ?_ _
    go_wp2
    exact bodyPost_ret (v := .tuple #[av ⟨2, d, c, 0, r / 8⟩, .bool true]) (by simp [results, Tryz.results33, go_sem, e0, e1, e2, e3, e4]) rfl ⟨rfl, HBB.out _ _ _ _ _⟩
  · rw [show Sh.act d c b i ⟨2, r⟩ = ⟨1, b, i, 0, 0⟩ from rfl, show Sh.more ⟨2, r⟩ = true from rfl]
    rw [show ((2 : Nat) : Int) = 2 from rfl] at c0
    go_enter Tryz.func33, Tryz.ntmps33
    go_wp2_with fail
    with_reducible refine (HL.out _).mono ?_
    rintro e w1 ⟨rfl, hb1⟩
    obtain ⟨⟨g0, g1, g2, g3, g4⟩, ⟨e0, e1, e2, e3, e4⟩, hbb⟩ := abox hb1
    have HBB := Lib.hid hbb
    clear hbb hb1
    obtain ⟨z, hz⟩ : ∃ z, z = w.heap.size := ⟨_, rfl⟩
    have HZ := Lib.hid hz
    rw [← hz] at e0 e1 e2 e3 e4 g0 g1 g2 g3 g4 ⊢
    clear hz
    go_wp2
    exact bodyPost_ret (v := .tuple #[av ⟨1, b, i, 0, 0⟩, .bool true]) (by simp [results, Tryz.results33, go_sem, e0, e1, e2, e3, e4]) rfl ⟨rfl, by rw [HZ.out]; exact HBB.out _ _ _ _ _⟩
  · rw [show Sh.act d c b i ⟨3, r⟩ = ⟨0, 0, 0, 0, 0⟩ from rfl, show Sh.more ⟨3, r⟩ = false from rfl]
    rw [show ((3 : Nat) : Int) = 3 from rfl] at c0
    go_enter Tryz.func33, Tryz.ntmps33
    go_wp2
    exact bodyPost_ret (v := .tuple #[av ⟨0, 0, 0, 0, 0⟩, .bool false]) (by simp [results, Tryz.results33, go_sem]) rfl ⟨rfl, HB.out _⟩
end Go.Proofs.YtknefjigdlbacaaGreatDoor
set_option linter.unusedSimpArgs false
set_option linter.unusedVariables false
namespace Go.Proofs.YtknefjigdlbacaaGreatDoor
open Go.RowKit Go.Maps
open Ac (A)
/-- The shield's pointer leads to a shield of this slot. -/
def Sq (B : Nat) (v : Value) (w : World) (c : Sk.C) (s : Sk.S) : Prop := ∃ qs, v = .pointer (some ⟨qs, 0, none⟩) ∧ B ≤ qs ∧ Sb w qs s.sh c.d (3 + 2 * (c.th : Int)) c.b (Sk.scell c s)
/-- The reader's pointer leads to a reader of this box. -/
def Rq (B : Nat) (v : Value) (w : World) (c : Sk.C) (s : Sk.S) (ad : Option Addr) (cc : Nat) : Prop := ∃ qr, v = .pointer (some ⟨qr, 0, none⟩) ∧ Rst B w qr (s.x / 8) s.rs s.rs.length ad cc
set_option maxHeartbeats 2000000 in
theorem khear_any {w : World} {q qc : Nat} {c : Sk.C} {s : Sk.S} {vs vr : Value} (h : Kb w q c s (.pointer (some ⟨qc, 0, none⟩)) vs vr) (hc : Cb w qc c.b c.lg s.cs) (hr : Tb.right (c.b : Int) (Tb.grp c.lg) = true) (h4 : s.cs.length ≤ 4) :
    Calls Tryz.prog 36 #[.pointer (some ⟨q, 0, none⟩)] w (Ends q c (Sk.hear c s) (.pointer (some ⟨qc, 0, none⟩)) vs vr (.tuple #[]) w) := by
  have KR := cres_any hc hr h4
  unfold cres at KR
  unfold Sk.hear
  obtain ⟨t, ht⟩ : ∃ t, t = Cw.told (7 * Tb.grp c.lg) s.cs := ⟨_, rfl⟩
  obtain ⟨m, hm⟩ : ∃ m, m = Cw.more s.cs := ⟨_, rfl⟩
  rw [← ht, ← hm] at KR ⊢
  have c17 := h.c17
  have HH := Lib.hid h
  clear ht hm h hc hr h4
  cases m
  · rw [if_neg (by simp)]
    rw [Bool.not_false, Bool.true_and] at KR
    cases t
    · rw [if_neg (by simp)]
      have KR := Lib.hid KR
      go_enter Tryz.func36, Tryz.ntmps36
      go_wp2_with fail
      with_reducible refine KR.out.mono ?_
      rintro e w1 ⟨rfl, hb⟩
      have h1 := HH.out.below hb
      have c0 := h1.c0
      have f0 := h1.fz 0
      have H2 := Lib.hid (h1.st (s' := { s with p := 3 }) (vc' := .pointer (some ⟨qc, 0, none⟩)) (vs' := vs) (vr' := vr) 0 (.int .i64 3) rfl)
      have H3 := Lib.hid ((show Chg q w w1 from Tn.of_below hb).set 0 (.int .i64 3) h1.lt)
      clear h1 hb KR
      go_wp2
      refine bodyPost_end (results_none rfl _ _ _) rfl ?_
      exact ⟨rfl, H2.out, H3.out⟩
    · rw [if_pos rfl]
      have KR := Lib.hid KR
      go_enter Tryz.func36, Tryz.ntmps36
      go_wp2_with fail
      with_reducible refine KR.out.mono ?_
      rintro e w1 ⟨rfl, hb⟩
      have K2 : Hid (Calls Tryz.prog 74 #[.pointer (some ⟨q, 0, none⟩), .agg #[.int .i64 6, .int .i64 0, .int .u64 0, .string ⟨#[]⟩]] w1 (Ends q c (Sk.fin s ⟨6, 0, 0, []⟩) (.pointer (some ⟨qc, 0, none⟩)) vs vr (.tuple #[]) w1)) := Lib.hid (kend_z (HH.out.below hb) 6)
      have HC := Lib.hid (show Chg q w w1 from Tn.of_below hb)
      clear hb KR
      go_wp2_with fail
      with_reducible refine K2.out.mono ?_
      rintro e w2 ⟨rfl, h1, h2⟩
      have H1 := Lib.hid h1; have H2 := Lib.hid (HC.out.trans h2); clear h1 h2
      go_wp2
      refine bodyPost_end (results_none rfl _ _ _) rfl ?_
      exact ⟨rfl, H1.out, H2.out⟩
  · rw [if_pos rfl]
    rw [Bool.not_true, Bool.false_and] at KR
    have KR := Lib.hid KR
    go_enter Tryz.func36, Tryz.ntmps36
    go_wp2_with fail
    with_reducible refine KR.out.mono ?_
    rintro e w1 ⟨rfl, hb⟩
    have H1 := Lib.hid (HH.out.below hb)
    have HC := Lib.hid (show Chg q w w1 from Tn.of_below hb)
    clear hb KR
    go_wp2
    refine bodyPost_end (results_none rfl _ _ _) rfl ?_
    exact ⟨rfl, H1.out, HC.out⟩
theorem holdsn (n : Nat) (w : World) (h : n < 18446744073709551616) : Calls Tryz.prog 91 #[.int .u64 (n : Int)] w (Gives (.bool (Tg.hd (n : Int))) w) := holds_any (n : Int) w (by omega) (by omega)
theorem Rst.mono {B B' : Nat} {w : World} {q b j c : Nat} {gs : List Nat} {ad : Option Addr} (h : Rst B w q b gs j ad c) (hb : B' ≤ B) : Rst B' w q b gs j ad c := by
  refine ⟨Nat.le_trans hb h.qB, h.own, ⟨h.row.1, ?_⟩, h.le⟩
  rcases h.row.2 with e | ⟨g, cap, cur, h1, h2, h3⟩
  · exact .inl e
  · exact .inr ⟨g, cap, cur, h1, Nat.le_trans hb h2, h3⟩
theorem opn_7 {s : Sk.S} (h : (Sk.opn s).1.p = 7) : (Sk.opn s).1 = s := by
  unfold Sk.opn at h ⊢
  split at h
  · rename_i h3
    rw [if_pos h3]
    split at h
    · cases h
    · rename_i h4
      rw [if_neg h4]
      split at h
      · cases h
      · rename_i h5
        rw [if_neg h5]
  · rename_i h3
    rw [if_neg h3]
/-- Behind the shield was asked: the seek's own cells have changed, there may be a new reader. -/
def Opens (q : Nat) (c : Sk.C) (x : Sk.S × Bool) (vc vs : Value) (w : World) (e : Ending) (w' : World) : Prop := e = .returned (.bool x.2) ∧ ∃ vr, Kb w' q c x.1 vc vs vr ∧ Chg q w w' ∧ (x.1.p = 8 → Rq w.heap.size vr w' c x.1 none 0)
set_option maxRecDepth 100000 in
set_option maxHeartbeats 2000000 in
theorem kopen_any {w : World} {q qs : Nat} {c : Sk.C} {s : Sk.S} {vc vr : Value} (h : Kb w q c s vc (.pointer (some ⟨qs, 0, none⟩)) vr) (hp : s.p = 7) (hs : Sb w qs s.sh c.d (3 + 2 * (c.th : Int)) c.b (Sk.scell c s)) (hr : s.sh.r < 18446744073709551616) :
    Calls Tryz.prog 39 #[.pointer (some ⟨q, 0, none⟩)] w (Opens q c (Sk.opn s) vc (.pointer (some ⟨qs, 0, none⟩)) w) := by
  have KR := sres_any hs
  unfold sres at KR
  have c18 := h.c18
  have HH := Lib.hid h
  unfold Sk.opn
  have KH := Lib.hid (fun W => holdsn s.sh.r W hr)
  have KB := Lib.hid (fun W => blockn s.sh.r W hr)
  clear h hs hr
  by_cases h3 : s.sh.p = 3
  · rw [if_pos h3]
    rw [if_pos h3, decide_eq_true h3] at KR
    have KR := Lib.hid KR
    clear h3
    generalize hrr : s.sh.r = r at *
    have HRR := Lib.hid hrr
    clear hrr
    cases hhd : Tg.hd (r : Int) with
    | true =>
      rw [hhd] at KH
      rw [if_pos rfl]
      have kn := fun W => rnew_any (r / 8) W
      rw [show ((r / 8 : Nat) : Int) = (r : Int) / 8 by omega] at kn
      have KN := Lib.hid kn
      clear kn
      have HP := Lib.hid hp
      clear hhd hp
      go_enter Tryz.func39, Tryz.ntmps39
      go_wp2_with fail
      with_reducible refine KR.out.mono ?_
      rintro e w1 ⟨rfl, rfl⟩
      go_wp2_with fail
      with_reducible refine (KH.out _).mono ?_
      rintro e w1 ⟨rfl, hb1⟩
      have HB1 := Lib.hid hb1
      clear hb1
      go_wp2_with fail
      with_reducible refine (KB.out _).mono ?_
      rintro e w2 ⟨rfl, hb2⟩
      have HB2 := Lib.hid (HB1.out.trans (hb2.mono HB1.out.size))
      clear hb2
      go_wp2_with fail
      with_reducible refine (KN.out _).mono ?_
      rintro e w3 ⟨rfl, hrb, hb3⟩
      have hb := HB2.out.trans (hb3.mono HB2.out.size)
      have h0 := HH.out.below hb
      have c16 := h0.c16
      have c0 := h0.c0
      have c19 := h0.c19
      have f16 := h0.fz 16
      have f0 := h0.fz 0
      have f19 := h0.fz 19
      obtain ⟨z, hz⟩ : ∃ z, z = w2.heap.size := ⟨_, rfl⟩
      rw [← hz] at hrb ⊢
      have h1 := h0.st (s' := { s with x := r }) (vc' := vc) (vs' := .pointer (some ⟨qs, 0, none⟩)) (vr' := vr) 16 (.int .u64 (r : Int)) rfl
      have h2 := h1.st (s' := { s with x := r, p := 8 }) (vc' := vc) (vs' := .pointer (some ⟨qs, 0, none⟩)) (vr' := vr) 0 (.int .i64 8) rfl
      have h3 := h2.st (s' := { s with x := r, p := 8, rs := [] }) (vc' := vc) (vs' := .pointer (some ⟨qs, 0, none⟩)) (vr' := .pointer (some ⟨z, 0, none⟩)) 19 (.pointer (some ⟨z, 0, none⟩)) rfl
      have hch := (((show Chg q w w3 from Tn.of_below hb).set 16 (.int .u64 (r : Int)) h0.lt).set 0 (.int .i64 8) h1.lt).set 19 (.pointer (some ⟨z, 0, none⟩)) h2.lt
      have hwz : w.heap.size ≤ z := by have := HB2.out.size; omega
      have hne : q ≠ z := by have := HH.out.lt; omega
      have hrb2 : Rb (((w3.setCell ⟨q, 16, none⟩ (.int .u64 (r : Int))).setCell ⟨q, 0, none⟩ (.int .i64 8)).setCell ⟨q, 19, none⟩ (.pointer (some ⟨z, 0, none⟩))) z ⟨1, r / 8, 0, 0, 0⟩ none 0 0 := hrb.keep ((Below.heap_setCell _ _ _ _ (by simp only; omega)).trans ((Below.heap_setCell _ _ _ _ (by simp only; omega)).trans (Below.heap_setCell _ _ _ _ (by simp only; omega))))
      have H3 := Lib.hid h3; have HCH := Lib.hid hch; have HRB := Lib.hid hrb2; have HQ := Lib.hid hwz
      clear h0 h1 h2 h3 hch hrb2 hrb hb hb3 hne hz hwz
      go_wp2
      go_ret
      refine ⟨rfl, _, H3.out, HCH.out, fun _ => ⟨z, rfl, HQ.out, ?_, ?_, by simp⟩⟩
      · show Rb _ z (Rd.act (r / 8) [] 0) none (Rd.nr [] 0) 0
        rw [Rd.act_zero, Rd.nr_zero]
        exact HRB.out
      · show World.ownsRow _ _ _ _ (.slice none (Rd.nr [] 0) 0) (Rd.nr [] 0) (us (Rd.rd [] 0))
        rw [Rd.nr_zero, Rd.rd_zero]
        exact World.ownsRow_nil _ _ _ _
    | false =>
      rw [hhd] at KH
      rw [if_neg (by simp)]
      obtain ⟨X, hX⟩ : ∃ X : Sk.S × Bool, X = (if r = 5 then (Sk.fin s ⟨4, 0, 0, []⟩, false) else (s, true)) := ⟨_, rfl⟩
      rw [← hX]
      have HX := Lib.hid hX
      have HP := Lib.hid hp
      clear hhd hp hX
      go_enter Tryz.func39, Tryz.ntmps39
      go_wp2_with fail
      with_reducible refine KR.out.mono ?_
      rintro e w1 ⟨rfl, rfl⟩
      go_wp2_with fail
      with_reducible refine (KH.out _).mono ?_
      rintro e w1 ⟨rfl, hb1⟩
      have HB1 := Lib.hid hb1
      clear hb1
      have KP := Lib.hid (kboxless_any (HH.out.below HB1.out) r)
      go_wp2_with fail
      with_reducible refine KP.out.mono ?_
      rintro e w2 ⟨rfl, h1, h2⟩
      have H1 := Lib.hid h1; have H2 := Lib.hid ((show Chg q w w1 from Tn.of_below HB1.out).trans h2); clear h1 h2
      by_cases h5 : r = 5
      · have e5 : decide (r ≠ 5) = false := decide_eq_false (fun h => h h5)
        rw [e5]
        have H1' := H1.out
        rw [if_pos h5] at H1'
        have H1' := Lib.hid H1'
        have HX' : Hid (X = (Sk.fin s ⟨4, 0, 0, []⟩, false)) := Lib.hid (by rw [HX.out, if_pos h5])
        clear H1 h5 e5 HX
        go_wp2
        go_ret
        rw [HX'.out]
        exact ⟨rfl, _, H1'.out, H2.out, fun e => by cases e⟩
      · have e5 : decide (r ≠ 5) = true := decide_eq_true h5
        rw [e5]
        have H1' := H1.out
        rw [if_neg h5] at H1'
        have H1' := Lib.hid H1'
        have HX' : Hid (X = (s, true)) := Lib.hid (by rw [HX.out, if_neg h5])
        clear H1 h5 e5 HX
        go_wp2
        go_ret
        rw [HX'.out]
        exact ⟨rfl, _, H1'.out, H2.out, fun e => by have := HP.out; simp only at e; omega⟩
  · rw [if_neg h3]
    rw [if_neg h3, decide_eq_false h3] at KR
    have KR := Lib.hid KR
    have HP := Lib.hid hp
    clear h3 hp
    go_enter Tryz.func39, Tryz.ntmps39
    go_wp2_with fail
    with_reducible refine KR.out.mono ?_
    rintro e w1 ⟨rfl, rfl⟩
    go_wp2
    go_ret
    exact ⟨rfl, _, HH.out, Chg.refl q w, fun e => by have := HP.out; simp only at e; omega⟩
end Go.Proofs.YtknefjigdlbacaaGreatDoor
