/-
  A crowd as a block; the walks of its may, whole, sum, New, Act, Take and Result, and of Note. By an AI agent.
-/
import Derived.Test.YtknefjigdlbacaaGreatDoorSkGAH
import Derived.Test.YtknefjigdlbacaaGreatDoorSkGAI
import Derived.Test.YtknefjigdlbacaaGreatDoorSkGAA
import Derived.Deep.RegionHeld3
import Derived.BigQuiet
set_option linter.unusedSimpArgs false
set_option linter.unusedVariables false
namespace Go.Proofs.YtknefjigdlbacaaGreatDoor
open Go.RowKit Go.Maps
open Ac (A)
/-- A crowd as a block: the table's block and log, the four stripes, how many are known. -/
def Cb (w : World) (q : Nat) (d : Nat) (l : Int) (s : List Nat) : Prop := w.heap[q]? = some (.cells #[.int .u64 (d : Int), .int .i64 l, .int .u64 ((s.getD 0 0 : Nat) : Int), .int .u64 ((s.getD 1 0 : Nat) : Int), .int .u64 ((s.getD 2 0 : Nat) : Int), .int .u64 ((s.getD 3 0 : Nat) : Int), .int .i64 (s.length : Int)] 120 (0, 0))
section
variable {w w' : World} {q d : Nat} {l : Int} {s : List Nat}
theorem Cb.lt (h : Cb w q d l s) : q < w.heap.size := (Array.getElem?_eq_some_iff.1 h).1
theorem Cb.keep (h : Cb w q d l s) (e : w'.heap[q]? = w.heap[q]?) : Cb w' q d l s := e.trans h
theorem Cb.below (h : Cb w q d l s) (hb : Below w.heap.size w w') : Cb w' q d l s := h.keep (hb.block q h.lt)
theorem Cb.fz (h : Cb w q d l s) (i : Nat) : w.frozen? ⟨q, i, none⟩ = false := by simp [World.frozen?, show w.heap[q]? = _ from h]
theorem Cb.c0 (h : Cb w q d l s) : w.cell? ⟨q, 0, none⟩ = some (.int .u64 (d : Int)) := by simp [World.cell?, show w.heap[q]? = _ from h]
theorem Cb.c1 (h : Cb w q d l s) : w.cell? ⟨q, 1, none⟩ = some (.int .i64 l) := by simp [World.cell?, show w.heap[q]? = _ from h]
theorem Cb.c2 (h : Cb w q d l s) : w.cell? ⟨q, 2, none⟩ = some (.int .u64 ((s.getD 0 0 : Nat) : Int)) := by simp [World.cell?, show w.heap[q]? = _ from h]
theorem Cb.c3 (h : Cb w q d l s) : w.cell? ⟨q, 3, none⟩ = some (.int .u64 ((s.getD 1 0 : Nat) : Int)) := by simp [World.cell?, show w.heap[q]? = _ from h]
theorem Cb.c4 (h : Cb w q d l s) : w.cell? ⟨q, 4, none⟩ = some (.int .u64 ((s.getD 2 0 : Nat) : Int)) := by simp [World.cell?, show w.heap[q]? = _ from h]
theorem Cb.c5 (h : Cb w q d l s) : w.cell? ⟨q, 5, none⟩ = some (.int .u64 ((s.getD 3 0 : Nat) : Int)) := by simp [World.cell?, show w.heap[q]? = _ from h]
theorem Cb.c6 (h : Cb w q d l s) : w.cell? ⟨q, 6, none⟩ = some (.int .i64 (s.length : Int)) := by simp [World.cell?, show w.heap[q]? = _ from h]
/-- An answer taken: the cell of its stripe, and one more that is known. -/
theorem Cb.take (h : Cb w q d l s) (hs : s.length < 4) (g : Nat) : Cb ((w.setCell ⟨q, 2 + s.length, none⟩ (.int .u64 (g : Int))).setCell ⟨q, 6, none⟩ (.int .i64 ((s.length + 1 : Nat) : Int))) q d l (Cw.step s g) := by
  rw [Cw.step_yes hs]
  unfold Cb at h ⊢
  rw [heap_setc (heap_setc h _ _) _ _]
  obtain rfl | ⟨a, rfl⟩ | ⟨a, b, rfl⟩ | ⟨a, b, c, rfl⟩ | ⟨a, b, c, e, rfl⟩ := Cw.ways (Nat.le_of_lt hs)
  · rfl
  · rfl
  · rfl
  · rfl
  · simp at hs
end
theorem Chg.refl (q : Nat) (w : World) : Chg q w w := Tn.refl _ _
/-! ### may, whole, sum -/
theorem cmay_nil (w : World) : Calls Tryz.prog 77 #[.pointer none] w (Same (.bool false) w) := by
  go_enter Tryz.func77, Tryz.ntmps77
  go_wp2
  go_ret
  exact ⟨rfl, rfl⟩
set_option maxHeartbeats 1000000 in
theorem cmay_any {w : World} {q d : Nat} {l : Int} {s : List Nat} (h : Cb w q d l s) : Calls Tryz.prog 77 #[.pointer (some ⟨q, 0, none⟩)] w (Gives (.bool (Tb.right d (Tb.grp l))) w) := by
  have K := Lib.hid (tright_any (d : Int) l w)
  have c0 := h.c0
  have c1 := h.c1
  clear h
  generalize Tb.right (d : Int) (Tb.grp l) = r at K ⊢
  go_enter Tryz.func77, Tryz.ntmps77
  go_wp2_with fail
  with_reducible refine K.out.mono ?_
  rintro e w1 ⟨rfl, hb⟩
  go_wp2
  go_ret
  exact ⟨rfl, hb⟩
theorem cwhole_any {w : World} {q d : Nat} {l : Int} {s : List Nat} (h : Cb w q d l s) : Calls Tryz.prog 78 #[.pointer (some ⟨q, 0, none⟩)] w (Same (.bool (decide (s.length = 4))) w) := by
  have c6 := h.c6
  clear h
  have e : decide (s.length = 4) = ((s.length : Int) == 4) := by
    rw [Bool.eq_iff_iff]; simp; omega
  rw [e]
  clear e
  go_enter Tryz.func78, Tryz.ntmps78
  go_wp2
  go_ret
  exact ⟨rfl, rfl⟩
set_option maxHeartbeats 1000000 in
theorem csum_any {w : World} {q d : Nat} {l : Int} {s : List Nat} (h : Cb w q d l s) : Calls Tryz.prog 128 #[.pointer (some ⟨q, 0, none⟩)] w (Same (.int .u64 ((Cw.sum s : Nat) : Int)) w) := by
  have c2 := h.c2
  have c3 := h.c3
  have c4 := h.c4
  have c5 := h.c5
  clear h
  unfold Cw.sum
  generalize s.getD 0 0 = a at *
  generalize s.getD 1 0 = b at *
  generalize s.getD 2 0 = c at *
  generalize s.getD 3 0 = e at *
  have E := Lib.hid (show IntKind.u64.wrap (IntKind.u64.wrap (IntKind.u64.wrap (IntKind.u64.wrap (a : Int) + (b : Int)) + (c : Int)) + (e : Int)) = (((a + b + c + e) % 18446744073709551616 : Nat) : Int) by
    rw [u64_wrap, u64_wrap, u64_wrap, u64_wrap]; omega)
  go_enter Tryz.func128, Tryz.ntmps128
  go_wp2
  refine wp_loop_rounds 5 ?_
  iterate 4
    rw [rounds_succ]
    go_wp2
  rw [rounds_succ]
  go_wp2
  go_ret
  exact ⟨ret_int (by first | exact E.out | (rw [← E.out]; rfl)), rfl⟩
/-! ### New -/
/-- A new crowd. -/
def Cnew (d : Nat) (l : Int) (w : World) (e : Ending) (w' : World) : Prop := ∃ q, e = .returned (.pointer (some ⟨q, 0, none⟩)) ∧ w.heap.size ≤ q ∧ Cb w' q d l [] ∧ Below w.heap.size w w'
theorem cnew_any (d : Nat) (l : Int) (w : World) : Calls Tryz.prog 135 #[.agg #[.int .u64 (d : Int), .int .i64 l]] w (Cnew d l w) := by
  have HB := Lib.hid (tboxed_below w (d : Int) l)
  go_enter Tryz.func135, Tryz.ntmps135
  go_wp2
  go_ret
  refine ⟨w.heap.size + 1, rfl, by omega, ?_, HB.out.trans (((Below.refl _ _).alloc (Nat.le_refl _) _).mono HB.out.size)⟩
  have := heap_alloc_new (tboxed w (d : Int) l) (.cells #[.int .u64 (d : Int), .int .i64 l, .int .u64 0, .int .u64 0, .int .u64 0, .int .u64 0, .int .i64 0] 120)
  rw [World.size_alloc] at this
  exact this
/-! ### Act -/
/-- A new act's box, in a world behind it. -/
theorem abox {w w1 : World} (hb : Below (w.alloc (.cells #[.int .i64 0, .int .u64 0, .int .i64 0, .int .u64 0, .int .u64 0] 35)).heap.size (w.alloc (.cells #[.int .i64 0, .int .u64 0, .int .i64 0, .int .u64 0, .int .u64 0] 35)) w1) :
    (w1.frozen? ⟨w.heap.size, 0, none⟩ = false ∧ w1.frozen? ⟨w.heap.size, 1, none⟩ = false ∧ w1.frozen? ⟨w.heap.size, 2, none⟩ = false ∧ w1.frozen? ⟨w.heap.size, 3, none⟩ = false ∧ w1.frozen? ⟨w.heap.size, 4, none⟩ = false) ∧
    (w1.cell? ⟨w.heap.size, 0, none⟩ = some (.int .i64 0) ∧ w1.cell? ⟨w.heap.size, 1, none⟩ = some (.int .u64 0) ∧ w1.cell? ⟨w.heap.size, 2, none⟩ = some (.int .i64 0) ∧ w1.cell? ⟨w.heap.size, 3, none⟩ = some (.int .u64 0) ∧ w1.cell? ⟨w.heap.size, 4, none⟩ = some (.int .u64 0)) ∧
    ∀ v0 v1 v2 v3 v4, Below w.heap.size w (((((w1.setCell ⟨w.heap.size, 0, none⟩ v0).setCell ⟨w.heap.size, 1, none⟩ v1).setCell ⟨w.heap.size, 2, none⟩ v2).setCell ⟨w.heap.size, 3, none⟩ v3).setCell ⟨w.heap.size, 4, none⟩ v4) := by
  have hz : w1.heap[w.heap.size]? = some (.cells #[.int .i64 0, .int .u64 0, .int .i64 0, .int .u64 0, .int .u64 0] 35 (0, 0)) := (hb.block w.heap.size (by rw [World.size_alloc]; omega)).trans (heap_alloc_new w _)
  have hw1 : Below w.heap.size w w1 := ((Below.refl _ w).alloc (Nat.le_refl _) _).trans (hb.mono (by rw [World.size_alloc]; omega))
  refine ⟨⟨?_, ?_, ?_, ?_, ?_⟩, ⟨?_, ?_, ?_, ?_, ?_⟩, fun v0 v1 v2 v3 v4 => ?_⟩
  iterate 5 (simp [World.frozen?, hz])
  iterate 5 (simp [World.cell?, hz])
  exact (((((hw1.setCell (p := ⟨w.heap.size, 0, none⟩) (Nat.le_refl _) v0).setCell (p := ⟨w.heap.size, 1, none⟩) (Nat.le_refl _) v1).setCell (p := ⟨w.heap.size, 2, none⟩) (Nat.le_refl _) v2).setCell (p := ⟨w.heap.size, 3, none⟩) (Nat.le_refl _) v3).setCell (p := ⟨w.heap.size, 4, none⟩) (Nat.le_refl _) v4)
/-- The box of a result that is an act. -/
abbrev zact (w : World) : World := w.alloc (.cells #[.int .i64 0, .int .u64 0, .int .i64 0, .int .u64 0, .int .u64 0] 35)
theorem zact_below (w : World) : Below w.heap.size w (zact w) := (Below.refl _ w).alloc (Nat.le_refl _) _
set_option maxRecDepth 100000 in
set_option maxHeartbeats 4000000 in
theorem cact_not {w : World} {q d : Nat} {l : Int} {s : List Nat} (h : Cb w q d l s) (hr : Tb.right d (Tb.grp l) = false) : Calls Tryz.prog 27 #[.pointer (some ⟨q, 0, none⟩)] w (Gives (.tuple #[av ⟨0, 0, 0, 0, 0⟩, .bool false]) w) := by
  have K := cmay_any (h.below (zact_below w))
  rw [hr] at K
  have K := Lib.hid K
  have HB := Lib.hid (zact_below w)
  clear h hr
  go_enter Tryz.func27, Tryz.ntmps27
  go_wp2_with fail
  with_reducible refine K.out.mono ?_
  rintro e w1 ⟨rfl, hb1⟩
  obtain ⟨⟨g0, g1, g2, g3, g4⟩, ⟨e0, e1, e2, e3, e4⟩, hbb⟩ := abox hb1
  have HBB := Lib.hid hbb
  clear hbb hb1 K
  generalize hz : w.heap.size = z at e0 e1 e2 e3 e4 g0 g1 g2 g3 g4 HBB ⊢
  go_wp2
  exact bodyPost_ret (v := .tuple #[av ⟨0, 0, 0, 0, 0⟩, .bool false]) (by simp [results, Tryz.results27, go_sem, e0, e1, e2, e3, e4]) rfl ⟨rfl, by rw [hz]; exact HBB.out _ _ _ _ _⟩
set_option maxRecDepth 100000 in
set_option maxHeartbeats 4000000 in
theorem cact_any {w : World} {q d : Nat} {l : Int} {s : List Nat} (h : Cb w q d l s) (hr : Tb.right d (Tb.grp l) = true) (h4 : s.length ≤ 4) : Calls Tryz.prog 27 #[.pointer (some ⟨q, 0, none⟩)] w (Gives (.tuple #[av (Cw.act d s), .bool (Cw.more s)]) w) := by
  have K := cmay_any (h.below (zact_below w))
  rw [hr] at K
  have K := Lib.hid K
  have HB := Lib.hid (zact_below w)
  have HH := Lib.hid h
  clear h hr
  by_cases h3 : s.length = 4
  · rw [Cw.act_no (by omega), show Cw.more s = false by simp [Cw.more]; omega]
    have KW : Hid (∀ W, Below w.heap.size w W → Calls Tryz.prog 78 #[.pointer (some ⟨q, 0, none⟩)] W (Same (.bool true) W)) := Lib.hid (fun W hb => by
      have := cwhole_any (HH.out.below hb)
      rwa [decide_eq_true h3] at this)
    clear h3 h4
    go_enter Tryz.func27, Tryz.ntmps27
    go_wp2_with fail
    with_reducible refine K.out.mono ?_
    rintro e w1 ⟨rfl, hb1⟩
    have K2 := Lib.hid (KW.out _ (HB.out.trans (hb1.mono HB.out.size)))
    obtain ⟨⟨g0, g1, g2, g3, g4⟩, ⟨e0, e1, e2, e3, e4⟩, hbb⟩ := abox hb1
    have HBB := Lib.hid hbb
    clear hbb hb1 K
    go_wp2_with fail
    with_reducible refine K2.out.mono ?_
    rintro e w2 ⟨rfl, rfl⟩
    clear K2 KW
    generalize hz : w.heap.size = z at e0 e1 e2 e3 e4 g0 g1 g2 g3 g4 HBB ⊢
    go_wp2
    exact bodyPost_ret (v := .tuple #[av ⟨0, 0, 0, 0, 0⟩, .bool false]) (by simp [results, Tryz.results27, go_sem, e0, e1, e2, e3, e4]) rfl ⟨rfl, by rw [hz]; exact HBB.out _ _ _ _ _⟩
  · rw [Cw.act_yes (by omega), show Cw.more s = true by simp [Cw.more]; omega]
    have KW : Hid (∀ W, Below w.heap.size w W → Calls Tryz.prog 78 #[.pointer (some ⟨q, 0, none⟩)] W (Same (.bool false) W)) := Lib.hid (fun W hb => by
      have := cwhole_any (HH.out.below hb)
      rwa [decide_eq_false h3] at this)
    have KS : Hid (∀ W, Calls Tryz.prog 79 #[.int .i64 (s.length : Int)] W (Same (.int .i64 ((3 + s.length : Nat) : Int)) W)) := Lib.hid (fun W => by
      have := stripe_any (s.length : Int) W
      rwa [show Tb.strp (s.length : Int) = ((3 + s.length : Nat) : Int) by unfold Tb.strp; omega] at this)
    generalize 3 + s.length = n at KS ⊢
    clear h3 h4
    go_enter Tryz.func27, Tryz.ntmps27
    go_wp2_with fail
    with_reducible refine K.out.mono ?_
    rintro e w1 ⟨rfl, hb1⟩
    have HB1 := Lib.hid (HB.out.trans (hb1.mono HB.out.size))
    have K2 := Lib.hid (KW.out _ HB1.out)
    obtain ⟨⟨g0, g1, g2, g3, g4⟩, ⟨e0, e1, e2, e3, e4⟩, hbb⟩ := abox (hb1.trans ((Below.refl _ w1).drew.mono hb1.size))
    have HBB := Lib.hid hbb
    clear hbb hb1 K
    go_wp2_with fail
    with_reducible refine K2.out.mono ?_
    rintro e w2 ⟨rfl, rfl⟩
    clear K2 KW
    have c0 := (HH.out.below (HB1.out.trans ((Below.refl _ w1).drew.mono HB1.out.size))).c0
    have c6 := (HH.out.below (HB1.out.trans ((Below.refl _ w1).drew.mono HB1.out.size))).c6
    generalize hz : w.heap.size = z at e0 e1 e2 e3 e4 g0 g1 g2 g3 g4 HBB ⊢
    go_wp2
    have HX := Lib.hid (show Below w.heap.size w w1.drew from HB1.out.trans ((Below.refl _ w1).drew.mono HB1.out.size))
    clear c0 c6
    refine wp_region_held_drew (S := fun w' => w'.cell? ⟨q, 0, none⟩ = some (.int .u64 (d : Int)) ∧ w'.cell? ⟨q, 6, none⟩ = some (.int .i64 (s.length : Int))) (by kernel_rfl) ⟨(HH.out.below HX.out).c0, (HH.out.below HX.out).c6⟩ (fun hS => ?_)
    generalize w1.drew = W at hS g0 g1 g2 g3 g4 e0 e1 e2 e3 e4 HX HBB ⊢
    refine wpAnyH_take (i := 0) (v := .pointer (some ⟨q, 0, none⟩)) rfl (by kernel_rfl) (by kernel_rfl) (by kernel_rfl) (fun _ _ _ h => h) (Or.inl ⟨by kernel_rfl, fun w hS => by kernel_rfl⟩) hS ?_
    refine wpAnyH_take (i := 1) (v := .pointer (some ⟨q, 0, none⟩)) rfl (by kernel_rfl) (by kernel_rfl) (by kernel_rfl) (fun _ _ _ h => h) (Or.inl ⟨by kernel_rfl, fun w hS => by kernel_rfl⟩) hS ?_
    refine wpAnyH_take (i := 2) (v := .pointer (some ⟨q, 0, none⟩)) rfl (by kernel_rfl) (by kernel_rfl) (by kernel_rfl) (fun _ _ _ h => h) (Or.inl ⟨by kernel_rfl, fun w hS => by kernel_rfl⟩) hS ?_
    refine wpAnyH_take (i := 3) (v := .pointer (some ⟨q, 0, none⟩)) rfl (by kernel_rfl) (by kernel_rfl) (by kernel_rfl) (fun _ _ _ h => h) (Or.inl ⟨by kernel_rfl, fun w hS => by kernel_rfl⟩) hS ?_
    refine wpAnyH_take (i := 4) (v := .int .u64 (d : Int)) rfl (by kernel_rfl) (by kernel_rfl) (by kernel_rfl) (fun _ _ _ h => h) (Or.inl ⟨by kernel_rfl, fun w hS => by obtain ⟨s1, s2⟩ := hS; go_simp⟩) hS ?_
    refine wpAnyH_take (i := 5) (v := .pointer (some ⟨q, 0, none⟩)) rfl (by kernel_rfl) (by kernel_rfl) (by kernel_rfl) (fun _ _ _ h => h) (Or.inl ⟨by kernel_rfl, fun w hS => by kernel_rfl⟩) hS ?_
    refine wpAnyH_take (i := 6) (v := .pointer (some ⟨q, 0, none⟩)) rfl (by kernel_rfl) (by kernel_rfl) (by kernel_rfl) (fun _ _ _ h => h) (Or.inl ⟨by kernel_rfl, fun w hS => by kernel_rfl⟩) hS ?_
    refine wpAnyH_take (i := 7) (v := .pointer (some ⟨q, 6, none⟩)) rfl (by kernel_rfl) (by kernel_rfl) (by kernel_rfl) (fun _ _ _ h => h) (Or.inl ⟨by kernel_rfl, fun w hS => by kernel_rfl⟩) hS ?_
    refine wpAnyH_take (i := 8) (v := .int .i64 (s.length : Int)) rfl (by kernel_rfl) (by kernel_rfl) (by kernel_rfl) (fun _ _ _ h => h) (Or.inl ⟨by kernel_rfl, fun w hS => by obtain ⟨s1, s2⟩ := hS; go_simp⟩) hS ?_
    refine wpAnyH_ready (rs := [9]) (by kernel_rfl) (by simp) ?_
    refine AllReadyH.cons rfl (fun K hK => ?_) AllReadyH.nil
    go_simp
    go_at_call 79
    refine (KS.out _).mono ?_
    rintro e w3 ⟨rfl, rfl⟩
    refine hK.out _ _ ⟨(HH.out.below HX.out).c0, (HH.out.below HX.out).c6⟩ (fun hS => ?_)
    clear hK K
    refine wpAnyH_take (i := 10) (v := .agg #[.int .i64 1, .int .u64 (d : Int), .int .i64 (n : Int), .int .u64 0, .int .u64 0]) rfl (by kernel_rfl) (by kernel_rfl) (by kernel_rfl) (fun _ _ _ h => h) (Or.inl ⟨by kernel_rfl, fun w hS => by kernel_rfl⟩) hS ?_
    refine wpAnyH_ready (rs := [11]) (by kernel_rfl) (by simp) ?_
    refine AllReadyH.cons rfl (fun K hK => ?_) AllReadyH.nil
    go_simp
    refine hK.out _ _ ⟨(HH.out.below (hz ▸ HBB.out _ _ _ _ _)).c0, (HH.out.below (hz ▸ HBB.out _ _ _ _ _)).c6⟩ (fun hS => ?_)
    clear hK K
    refine wpAnyH_take (i := 12) (v := .bool true) rfl (by kernel_rfl) (by kernel_rfl) (by kernel_rfl) (fun _ _ _ h => h) (Or.inl ⟨by kernel_rfl, fun w hS => by kernel_rfl⟩) hS ?_
    refine wpAnyH_done (by kernel_rfl) ?_ _
    go_wp2
    exact bodyPost_ret (v := .tuple #[av ⟨1, d, n, 0, 0⟩, .bool true]) (by simp [results, Tryz.results27, go_sem, e0, e1, e2, e3, e4]) rfl ⟨rfl, by rw [hz]; exact HBB.out _ _ _ _ _⟩
/-! ### Take -/
theorem ctake_nil (v : Int) (w : World) : Calls Tryz.prog 35 #[.pointer none, .int .u64 v] w (Same (.tuple #[]) w) := by
  have K := Lib.hid (fun W => cmay_nil W)
  go_enter Tryz.func35, Tryz.ntmps35
  go_wp2_with fail
  with_reducible refine (K.out _).mono ?_
  rintro e w1 ⟨rfl, rfl⟩
  go_wp2
  refine bodyPost_ret (results_none rfl _ _ _) rfl ?_
  exact ⟨rfl, rfl⟩
/-- Take has taken. -/
def Ctook (q d : Nat) (l : Int) (s : List Nat) (w : World) (e : Ending) (w' : World) : Prop := e = .returned (.tuple #[]) ∧ Cb w' q d l s ∧ Chg q w w'
set_option maxHeartbeats 4000000 in
theorem ctake_not {w : World} {q d : Nat} {l : Int} {s : List Nat} (h : Cb w q d l s) (hr : Tb.right d (Tb.grp l) = false) (v : Int) : Calls Tryz.prog 35 #[.pointer (some ⟨q, 0, none⟩), .int .u64 v] w (Ctook q d l s w) := by
  have K := cmay_any h
  rw [hr] at K
  have K := Lib.hid K
  have HH := Lib.hid h
  clear h hr
  go_enter Tryz.func35, Tryz.ntmps35
  go_wp2_with fail
  with_reducible refine K.out.mono ?_
  rintro e w1 ⟨rfl, hb1⟩
  go_wp2
  refine bodyPost_ret (results_none rfl _ _ _) rfl ?_
  exact ⟨rfl, HH.out.below hb1, Tn.of_below hb1⟩
set_option maxRecDepth 100000 in
set_option maxHeartbeats 4000000 in
theorem ctake_any {w : World} {q d : Nat} {l : Int} {s : List Nat} (h : Cb w q d l s) (hr : Tb.right d (Tb.grp l) = true) (h4 : s.length ≤ 4) (v : Nat) : Calls Tryz.prog 35 #[.pointer (some ⟨q, 0, none⟩), .int .u64 (v : Int)] w (Ctook q d l (Cw.step s v) w) := by
  have K := cmay_any h
  rw [hr] at K
  have K := Lib.hid K
  have HH := Lib.hid h
  clear h hr
  by_cases h3 : s.length = 4
  · rw [Cw.step_no (by omega)]
    have KW : Hid (∀ W, Below w.heap.size w W → Calls Tryz.prog 78 #[.pointer (some ⟨q, 0, none⟩)] W (Same (.bool true) W)) := Lib.hid (fun W hb => by
      have := cwhole_any (HH.out.below hb)
      rwa [decide_eq_true h3] at this)
    clear h3 h4
    go_enter Tryz.func35, Tryz.ntmps35
    go_wp2_with fail
    with_reducible refine K.out.mono ?_
    rintro e w1 ⟨rfl, hb1⟩
    have K2 := Lib.hid (KW.out _ hb1)
    have HB1 := Lib.hid hb1
    clear hb1 K KW
    go_wp2_with fail
    with_reducible refine K2.out.mono ?_
    rintro e w2 ⟨rfl, rfl⟩
    go_wp2
    refine bodyPost_ret (results_none rfl _ _ _) rfl ?_
    exact ⟨rfl, HH.out.below HB1.out, Tn.of_below HB1.out⟩
  · have KW : Hid (∀ W, Below w.heap.size w W → Calls Tryz.prog 78 #[.pointer (some ⟨q, 0, none⟩)] W (Same (.bool false) W)) := Lib.hid (fun W hb => by
      have := cwhole_any (HH.out.below hb)
      rwa [decide_eq_false h3] at this)
    have h5 : s.length < 4 := by omega
    have H5 := Lib.hid h5
    have HT : Hid (∀ W, Below w.heap.size w W → Ctook q d l (Cw.step s v) w (.returned (.tuple #[])) (((W.setCell ⟨q, 2 + s.length, none⟩ (.int .u64 (v : Int))).setCell ⟨q, 6, none⟩ (.int .i64 ((s.length + 1 : Nat) : Int))).drew)) := Lib.hid (fun W hb => by
      have hW := HH.out.below hb
      have hc : Chg q w ((W.setCell ⟨q, 2 + s.length, none⟩ (.int .u64 (v : Int))).setCell ⟨q, 6, none⟩ (.int .i64 ((s.length + 1 : Nat) : Int))) := ((show Chg q w W from Tn.of_below hb).set _ _ hW.lt).set 6 _ (by rw [World.size_setCell]; exact hW.lt)
      exact ⟨rfl, (hW.take h5 v).below (Below.refl _ _).drew, hc.trans (Tn.of_below (Below.refl _ _).drew)⟩)
    clear h3 h4
    go_enter Tryz.func35, Tryz.ntmps35
    go_wp2_with fail
    with_reducible refine K.out.mono ?_
    rintro e w1 ⟨rfl, hb1⟩
    have K2 := Lib.hid (KW.out _ hb1)
    have HT1 := Lib.hid (HT.out _ hb1)
    have HH1 := HH.out.below hb1
    have c6 := HH1.c6
    have c2 := HH1.c2
    have c3 := HH1.c3
    have c4 := HH1.c4
    have c5 := HH1.c5
    have f2 := HH1.fz 2
    have f3 := HH1.fz 3
    have f4 := HH1.fz 4
    have f5 := HH1.fz 5
    have f6 := HH1.fz 6
    clear hb1 K KW HT HH1
    go_wp2_with fail
    with_reducible refine K2.out.mono ?_
    rintro e w2 ⟨rfl, rfl⟩
    clear K2
    obtain rfl | ⟨a, rfl⟩ | ⟨a, b, rfl⟩ | ⟨a, b, c, rfl⟩ | ⟨a, b, c, e, rfl⟩ := Cw.ways (Nat.le_of_lt h5)
    case inr.inr.inr.inr => exact absurd H5.out (by simp)
    all_goals
      simp only [List.length_cons, List.length_nil, Nat.zero_add, Nat.reduceAdd] at c6
      clear h5
      go_wp2
      go_region
      all_goals go_wp2
      all_goals refine bodyPost_ret (results_none rfl _ _ _) rfl ?_
      all_goals exact HT1.out
/-! ### Result -/
theorem cquiet {f : FuncId} {args : Array Value} {w : World} {n : Nat} {v : Value} (h : Calls Tryz.prog f args (w.drewN n) (Same v (w.drewN n))) : Calls Tryz.prog f args (w.drewN n) fun e w'' => e = .returned v ∧ ∃ m, w'' = w.drewN m :=
  h.mono fun _ _ ⟨he, hm⟩ => ⟨he, n, hm.symm⟩
theorem cres_nil (w : World) : Calls Tryz.prog 86 #[.pointer none] w (Same (.tuple #[.bool false, .bool false]) w) := by
  have K := Lib.hid (fun W => cmay_nil W)
  go_enter Tryz.func86, Tryz.ntmps86
  go_wp2_with fail
  with_reducible refine (K.out _).mono ?_
  rintro e w1 ⟨rfl, rfl⟩
  go_wp2
  go_ret2
  exact ⟨rfl, rfl⟩
set_option maxHeartbeats 4000000 in
theorem cres_not {w : World} {q d : Nat} {l : Int} {s : List Nat} (h : Cb w q d l s) (hr : Tb.right d (Tb.grp l) = false) : Calls Tryz.prog 86 #[.pointer (some ⟨q, 0, none⟩)] w (Gives (.tuple #[.bool false, .bool false]) w) := by
  have K := cmay_any h
  rw [hr] at K
  have K := Lib.hid K
  clear h hr
  go_enter Tryz.func86, Tryz.ntmps86
  go_wp2_with fail
  with_reducible refine K.out.mono ?_
  rintro e w1 ⟨rfl, hb1⟩
  go_wp2
  go_ret2
  exact ⟨rfl, hb1⟩
/-- What Result tells. -/
def cres (m : Nat) (s : List Nat) : Value := .tuple #[.bool (!Cw.more s && Cw.told m s), .bool (!Cw.more s)]
set_option maxRecDepth 100000 in
set_option maxHeartbeats 4000000 in
theorem cres_any {w : World} {q d : Nat} {l : Int} {s : List Nat} (h : Cb w q d l s) (hr : Tb.right d (Tb.grp l) = true) (h4 : s.length ≤ 4) : Calls Tryz.prog 86 #[.pointer (some ⟨q, 0, none⟩)] w (Gives (cres (7 * Tb.grp l) s) w) := by
  have K := cmay_any h
  rw [hr] at K
  have K := Lib.hid K
  have HH := Lib.hid h
  clear h hr
  unfold cres
  by_cases h3 : s.length = 4
  · have hm : Cw.more s = false := by simp [Cw.more]; omega
    rw [hm, Bool.not_false, Bool.true_and]
    have KW : Hid (∀ W, Below w.heap.size w W → Calls Tryz.prog 78 #[.pointer (some ⟨q, 0, none⟩)] W (Same (.bool true) W)) := Lib.hid (fun W hb => by
      have := cwhole_any (HH.out.below hb)
      rwa [decide_eq_true h3] at this)
    have KS : Hid (∀ W, Below w.heap.size w W → Calls Tryz.prog 128 #[.pointer (some ⟨q, 0, none⟩)] W (Same (.int .u64 ((Cw.sum s : Nat) : Int)) W)) := Lib.hid (fun W hb => csum_any (HH.out.below hb))
    have KL := Lib.hid (fun W => limit_any l W)
    have hg := Tb.grp_le l
    have HG : Hid (IntKind.u64.wrap (7 * (Tb.grp l : Int)) = 7 * (Tb.grp l : Int)) := Lib.hid (by rw [u64_wrap]; omega)
    have HD : Hid (decide (7 * (Tb.grp l : Int) ≤ ((Cw.sum s : Nat) : Int)) = Cw.told (7 * Tb.grp l) s) := Lib.hid (by
      unfold Cw.told
      rw [Bool.eq_iff_iff]; simp only [decide_eq_true_eq]; omega)
    generalize Cw.told (7 * Tb.grp l) s = r at HD ⊢
    generalize Cw.sum s = x at HD KS ⊢
    generalize Tb.grp l = n at *
    clear h3 h4 hm hg
    go_enter Tryz.func86, Tryz.ntmps86
    go_wp2_with fail
    with_reducible refine K.out.mono ?_
    rintro e w1 ⟨rfl, hb1⟩
    have K2 := Lib.hid (KW.out _ hb1)
    have K3 := Lib.hid (fun n => cquiet (w := w1) (n := n) (KS.out (w1.drewN n) (Go.below_drewN hb1 n)))
    have K4 := Lib.hid (fun n => cquiet (w := w1) (n := n) (KL.out (w1.drewN n)))
    have c1 := (HH.out.below hb1).c1
    have HB1 := Lib.hid hb1
    clear hb1 K KW KS
    go_wp2_with fail
    with_reducible refine K2.out.mono ?_
    rintro e w2 ⟨rfl, rfl⟩
    clear K2
    have e1 := HG.out
    go_wp2_with fail
    go_quiet (first | (go_at_call 128; with_reducible exact K3.out _) | (go_at_call 129; with_reducible exact K4.out _))
    go_wp2
    rw [HD.out]
    go_ret2
    exact ⟨rfl, Go.below_drewN HB1.out _⟩
  · have hm : Cw.more s = true := by simp [Cw.more]; omega
    rw [hm, Bool.not_true, Bool.false_and]
    have KW : Hid (∀ W, Below w.heap.size w W → Calls Tryz.prog 78 #[.pointer (some ⟨q, 0, none⟩)] W (Same (.bool false) W)) := Lib.hid (fun W hb => by
      have := cwhole_any (HH.out.below hb)
      rwa [decide_eq_false h3] at this)
    clear h3 h4 hm
    go_enter Tryz.func86, Tryz.ntmps86
    go_wp2_with fail
    with_reducible refine K.out.mono ?_
    rintro e w1 ⟨rfl, hb1⟩
    have K2 := Lib.hid (KW.out _ hb1)
    have HB1 := Lib.hid hb1
    clear hb1 K KW
    go_wp2_with fail
    with_reducible refine K2.out.mono ?_
    rintro e w2 ⟨rfl, rfl⟩
    go_wp2
    go_ret2
    exact ⟨rfl, HB1.out⟩
end Go.Proofs.YtknefjigdlbacaaGreatDoor
