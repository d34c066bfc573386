/-
  A guard as a block; the walks of its New, Act, Take and Result. By an AI agent.
-/
import Derived.Test.YtdmmgnicbemghaaDoorMkTake2
import Derived.Test.YtdmmgnicbemghaaDoorDeskRight
import Derived.Test.YtdmmgnicbemghaaDoorGdMath
import Derived.Deep.RegionHeld3
set_option linter.unusedSimpArgs false
set_option linter.unusedVariables false
namespace Go.Proofs.YtdmmgnicbemghaaDoor
open Go.RowKit Go.Maps
open Ac (A)
/-- A guard as a block: its part, the desk's block, its cell, the root that it knows. -/
def Gb (w : World) (q : Nat) (s : Gd.S) (b : Nat) (c : Int) : Prop := w.heap[q]? = some (.cells #[.int .i64 (s.p : Int), .int .u64 (b : Int), .int .i64 c, .int .u64 (s.r : Int)] 56 (0, 0))
section
variable {w w' : World} {q b : Nat} {c : Int} {s : Gd.S}
theorem Gb.lt (h : Gb w q s b c) : q < w.heap.size := (Array.getElem?_eq_some_iff.1 h).1
theorem Gb.keep (h : Gb w q s b c) (e : w'.heap[q]? = w.heap[q]?) : Gb w' q s b c := e.trans h
theorem Gb.below (h : Gb w q s b c) (hb : Below w.heap.size w w') : Gb w' q s b c := h.keep (hb.block q h.lt)
theorem Gb.fz (h : Gb w q s b c) (i : Nat) : w.frozen? ⟨q, i, none⟩ = false := by simp [World.frozen?, show w.heap[q]? = _ from h]
theorem Gb.c0 (h : Gb w q s b c) : w.cell? ⟨q, 0, none⟩ = some (.int .i64 (s.p : Int)) := by simp [World.cell?, show w.heap[q]? = _ from h]
theorem Gb.c1 (h : Gb w q s b c) : w.cell? ⟨q, 1, none⟩ = some (.int .u64 (b : Int)) := by simp [World.cell?, show w.heap[q]? = _ from h]
theorem Gb.c2 (h : Gb w q s b c) : w.cell? ⟨q, 2, none⟩ = some (.int .i64 c) := by simp [World.cell?, show w.heap[q]? = _ from h]
theorem Gb.c3 (h : Gb w q s b c) : w.cell? ⟨q, 3, none⟩ = some (.int .u64 (s.r : Int)) := by simp [World.cell?, show w.heap[q]? = _ from h]
/-- Another part. -/
theorem Gb.part (h : Gb w q s b c) (p : Nat) : Gb (w.setCell ⟨q, 0, none⟩ (.int .i64 (p : Int))) q ⟨p, s.r⟩ b c := by
  unfold Gb at h ⊢
  rw [heap_setc h _ _]
  simp
/-- Another root. -/
theorem Gb.root (h : Gb w q s b c) (r : Nat) : Gb (w.setCell ⟨q, 3, none⟩ (.int .u64 (r : Int))) q ⟨s.p, r⟩ b c := by
  unfold Gb at h ⊢
  rw [heap_setc h _ _]
  simp
end
theorem Chg.refl (q : Nat) (w : World) : Chg q w w := Tn.refl _ _
/-! ### Act -/
theorem gact_nil (w : World) : Calls Tryd.prog 8 #[.pointer none] w (Gives (.tuple #[av ⟨0, 0, 0, 0, 0⟩, .bool false]) w) := by
  go_enter Tryd.func8, Tryd.ntmps8
  go_wp2
  exact bodyPost_ret (v := .tuple #[av ⟨0, 0, 0, 0, 0⟩, .bool false]) (by simp [results, Tryd.results8, go_sem]) rfl ⟨rfl, (Below.refl _ w).alloc (Nat.le_refl _) _⟩
set_option maxRecDepth 100000 in
set_option maxHeartbeats 4000000 in
theorem gact_any {w : World} {q b : Nat} {c : Int} {s : Gd.S} (h : Gb w q s b c) (hp : s.p ≤ 4) : Calls Tryd.prog 8 #[.pointer (some ⟨q, 0, none⟩)] w (Gives (.tuple #[av (Gd.act b c s), .bool (Gd.more s)]) w) := by
  have hb : ∀ o, Below w.heap.size w (w.alloc o) := fun o => (Below.refl _ w).alloc (Nat.le_refl _) _
  have c0 := fun o => (h.below (hb o)).c0
  have c1 := fun o => (h.below (hb o)).c1
  have c2 := fun o => (h.below (hb o)).c2
  have c3 := fun o => (h.below (hb o)).c3
  obtain ⟨p, r⟩ := s
  dsimp only at c0 c1 c2 c3 hp
  have HB := Lib.hid hb; clear hb
  clear h
  obtain rfl | rfl | rfl | rfl | rfl : p = 0 ∨ p = 1 ∨ p = 2 ∨ p = 3 ∨ p = 4 := by omega
  · rw [show Gd.act b c ⟨0, r⟩ = ⟨0, 0, 0, 0, 0⟩ from rfl, show Gd.more ⟨0, r⟩ = false from rfl]
    rw [show ((0 : Nat) : Int) = 0 from rfl] at c0
    go_enter Tryd.func8, Tryd.ntmps8
    go_wp2
    exact bodyPost_ret (v := .tuple #[av ⟨0, 0, 0, 0, 0⟩, .bool false]) (by simp [results, Tryd.results8, go_sem]) rfl ⟨rfl, HB.out _⟩
  · rw [show Gd.act b c ⟨1, r⟩ = ⟨1, b, 0, 0, 0⟩ from rfl, show Gd.more ⟨1, r⟩ = true from rfl]
    rw [show ((1 : Nat) : Int) = 1 from rfl] at c0
    go_enter Tryd.func8, Tryd.ntmps8
    go_wp2
    exact bodyPost_ret (v := .tuple #[av ⟨1, b, 0, 0, 0⟩, .bool true]) (by simp [results, Tryd.results8, go_sem]) rfl ⟨rfl, HB.out _⟩
  · rw [show Gd.act b c ⟨2, r⟩ = ⟨2, b, c, 0, r⟩ from rfl, show Gd.more ⟨2, r⟩ = true from rfl]
    rw [show ((2 : Nat) : Int) = 2 from rfl] at c0
    go_enter Tryd.func8, Tryd.ntmps8
    go_wp2
    go_region
    all_goals go_wp2
    all_goals exact bodyPost_ret (v := .tuple #[av ⟨2, b, c, 0, r⟩, .bool true]) (by simp [results, Tryd.results8, go_sem]) rfl ⟨rfl, (HB.out _).drew⟩
  · rw [show Gd.act b c ⟨3, r⟩ = ⟨1, b, 0, 0, 0⟩ from rfl, show Gd.more ⟨3, r⟩ = true from rfl]
    rw [show ((3 : Nat) : Int) = 3 from rfl] at c0
    go_enter Tryd.func8, Tryd.ntmps8
    go_wp2
    exact bodyPost_ret (v := .tuple #[av ⟨1, b, 0, 0, 0⟩, .bool true]) (by simp [results, Tryd.results8, go_sem]) rfl ⟨rfl, HB.out _⟩
  · rw [show Gd.act b c ⟨4, r⟩ = ⟨0, 0, 0, 0, 0⟩ from rfl, show Gd.more ⟨4, r⟩ = false from rfl]
    rw [show ((4 : Nat) : Int) = 4 from rfl] at c0
    go_enter Tryd.func8, Tryd.ntmps8
    go_wp2
    exact bodyPost_ret (v := .tuple #[av ⟨0, 0, 0, 0, 0⟩, .bool false]) (by simp [results, Tryd.results8, go_sem]) rfl ⟨rfl, HB.out _⟩
/-! ### Take -/
theorem gtake_nil (v : Int) (w : World) : Calls Tryd.prog 9 #[.pointer none, .int .u64 v] w (Same (.tuple #[]) w) := by
  go_enter Tryd.func9, Tryd.ntmps9
  refine scope_hops 1 ?_
  go_wp2
  rw [Hop.ret]
  refine bodyPost_ret (results_none rfl _ _ _) rfl ?_
  exact ⟨rfl, rfl⟩
set_option maxRecDepth 100000 in
set_option maxHeartbeats 4000000 in
theorem gtake_any {w : World} {q b : Nat} {c : Int} {s : Gd.S} (h : Gb w q s b c) (hp : s.p ≤ 4) (v : Nat) : Calls Tryd.prog 9 #[.pointer (some ⟨q, 0, none⟩), .int .u64 (v : Int)] w fun e w' => e = .returned (.tuple #[]) ∧ Gb w' q (Gd.step s v) b c ∧ Chg q w w' := by
  have c0 := h.c0
  have c3 := h.c3
  have f0 := h.fz 0
  have f3 := h.fz 3
  have HH := Lib.hid h; clear h
  obtain ⟨p, r⟩ := s
  dsimp only at c0 c3 hp
  obtain rfl | rfl | rfl | rfl | rfl : p = 0 ∨ p = 1 ∨ p = 2 ∨ p = 3 ∨ p = 4 := by omega
  · rw [show ((0 : Nat) : Int) = 0 from rfl] at c0
    go_enter Tryd.func9, Tryd.ntmps9
    refine scope_hops 1 ?_
    go_wp2
    apply wp_label
    go_wp2
    refine wp_loop_rounds 2 ?_
    rw [rounds_succ]
    go_wp2
    rw [Hop.ret]
    refine bodyPost_ret (results_none rfl _ _ _) rfl ?_
    exact ⟨rfl, HH.out, Tn.refl _ _⟩
  · rw [show ((1 : Nat) : Int) = 1 from rfl] at c0
    go_enter Tryd.func9, Tryd.ntmps9
    refine scope_hops 1 ?_
    go_wp2
    apply wp_label
    go_wp2
    refine wp_loop_rounds 2 ?_
    rw [rounds_succ]
    go_wp2
    rw [Hop.ret]
    refine bodyPost_ret (results_none rfl _ _ _) rfl ?_
    exact ⟨rfl, (HH.out.root v).part 2, ((Chg.refl q w).set 3 _ HH.out.lt).set 0 _ (HH.out.root v).lt⟩
  · rw [show ((2 : Nat) : Int) = 2 from rfl] at c0
    go_enter Tryd.func9, Tryd.ntmps9
    refine scope_hops 1 ?_
    go_wp2
    apply wp_label
    go_wp2
    refine wp_loop_rounds 2 ?_
    rw [rounds_succ]
    go_wp2
    rw [Hop.ret]
    refine bodyPost_ret (results_none rfl _ _ _) rfl ?_
    exact ⟨rfl, HH.out.part 3, (Chg.refl q w).set 0 _ HH.out.lt⟩
  · rw [show ((3 : Nat) : Int) = 3 from rfl] at c0
    by_cases hv : v = r
    · subst hv
      rw [Gd.step3_yes]
      have e1 : ((v : Int) != (v : Int)) = false := by simp
      go_enter Tryd.func9, Tryd.ntmps9
      refine scope_hops 1 ?_
      go_wp2
      apply wp_label
      go_wp2
      refine wp_loop_rounds 2 ?_
      rw [rounds_succ]
      go_wp2
      rw [Hop.ret]
      refine bodyPost_ret (results_none rfl _ _ _) rfl ?_
      exact ⟨rfl, HH.out.part 4, (Chg.refl q w).set 0 _ HH.out.lt⟩
    · rw [Gd.step3_no hv]
      have e1 : ((v : Int) == (r : Int)) = false := by simp; omega
      go_enter Tryd.func9, Tryd.ntmps9
      refine scope_hops 1 ?_
      go_wp2
      apply wp_label
      go_wp2
      refine wp_loop_rounds 2 ?_
      rw [rounds_succ]
      go_wp2
      rw [rounds_succ]
      go_wp2
      rw [Hop.ret]
      refine bodyPost_ret (results_none rfl _ _ _) rfl ?_
      exact ⟨rfl, ((HH.out.part 1).root v).part 2, (((Chg.refl q w).set 0 _ HH.out.lt).set 3 _ (HH.out.part 1).lt).set 0 _ ((HH.out.part 1).root v).lt⟩
  · rw [show ((4 : Nat) : Int) = 4 from rfl] at c0
    go_enter Tryd.func9, Tryd.ntmps9
    refine scope_hops 1 ?_
    go_wp2
    apply wp_label
    go_wp2
    refine wp_loop_rounds 2 ?_
    rw [rounds_succ]
    go_wp2
    rw [Hop.ret]
    refine bodyPost_ret (results_none rfl _ _ _) rfl ?_
    exact ⟨rfl, HH.out, Tn.refl _ _⟩
/-! ### Result -/
theorem gres_nil (w : World) : Calls Tryd.prog 10 #[.pointer none] w (Same (.tuple #[.int .u64 0, .bool false]) w) := by
  go_enter Tryd.func10, Tryd.ntmps10
  go_wp2
  go_ret2
  exact ⟨rfl, rfl⟩
/-- What Result tells. -/
def gres (s : Gd.S) : Value := .tuple #[.int .u64 ((if s.p = 4 then s.r else 0 : Nat) : Int), .bool (decide (s.p = 4))]
set_option maxRecDepth 100000 in
set_option maxHeartbeats 4000000 in
theorem gres_any {w : World} {q b : Nat} {c : Int} {s : Gd.S} (h : Gb w q s b c) : Calls Tryd.prog 10 #[.pointer (some ⟨q, 0, none⟩)] w (Same (gres s) w) := by
  have c0 := h.c0
  have c3 := h.c3
  clear h
  unfold gres
  obtain ⟨p, r⟩ := s
  dsimp only at c0 c3 ⊢
  by_cases h4 : p = 4
  · subst h4
    rw [if_pos rfl, decide_eq_true rfl]
    rw [show ((4 : Nat) : Int) = 4 from rfl] at c0
    go_enter Tryd.func10, Tryd.ntmps10
    go_wp2
    go_ret2
    exact ⟨rfl, rfl⟩
  · rw [if_neg h4, decide_eq_false h4]
    have e1 : ((p : Int) != 4) = true := by simp; omega
    have e2 : ((p : Int) == 4) = false := by simp; omega
    clear h4
    go_enter Tryd.func10, Tryd.ntmps10
    go_wp2
    go_ret2
    exact ⟨rfl, rfl⟩
/-! ### New -/
/-- A new guard. -/
def Gnew (s : Gd.S) (b : Nat) (c : Int) (w : World) (e : Ending) (w' : World) : Prop := ∃ q, e = .returned (.pointer (some ⟨q, 0, none⟩)) ∧ w.heap.size ≤ q ∧ Gb w' q s b c ∧ Below w.heap.size w w'
set_option maxRecDepth 100000 in
set_option maxHeartbeats 4000000 in
theorem gnew_no (d t n k s : Int) (w : World) (h : Bd w) (hr : Dk.right d t n k = false) : Calls Tryd.prog 6 #[.agg #[.int .u64 d, .int .i64 t, .int .i64 n, .int .i64 k, .int .u64 s]] w (Gnew ⟨0, 0⟩ 0 0 w) := by
  have HB := Lib.hid (sboxed_below w d t n k s)
  have KR := dright_any d t n k s (sboxed w d t n k s) (h.below HB.out)
  rw [hr] at KR
  have KR := Lib.hid KR
  clear h hr
  go_enter Tryd.func6, Tryd.ntmps6
  go_wp2_with fail
  with_reducible refine KR.out.mono ?_
  rintro e w1 ⟨rfl, hb⟩
  have HB1 := Lib.hid (HB.out.trans (hb.mono HB.out.size))
  clear hb KR
  go_wp2
  go_ret
  exact ⟨w1.heap.size, rfl, HB1.out.size, heap_alloc_new w1 _, HB1.out.trans (((Below.refl _ w1).alloc (Nat.le_refl _) _).mono HB1.out.size)⟩
set_option maxRecDepth 100000 in
set_option maxHeartbeats 4000000 in
theorem gnew_yes (d : Nat) (t n k s : Int) (w : World) (h : Bd w) (hr : Dk.right d t n k = true) : Calls Tryd.prog 6 #[.agg #[.int .u64 (d : Int), .int .i64 t, .int .i64 n, .int .i64 k, .int .u64 s]] w (Gnew ⟨1, 0⟩ d (Dk.tab t) w) := by
  have HB := Lib.hid (sboxed_below w d t n k s)
  have KR := dright_any d t n k s (sboxed w d t n k s) (h.below HB.out)
  rw [hr] at KR
  have KR := Lib.hid KR
  have HBD := Lib.hid (h.below HB.out)
  clear h hr
  have KT := Lib.hid (fun W (hb : Bd W) => dtable_any t W hb)
  generalize Dk.tab t = c at *
  have HC := Lib.hid (fun W hb => (sboxed_cells (w := w) (w' := W) (d := d) (t := t) (n := n) (k := k) (s := s) hb))
  go_enter Tryd.func6, Tryd.ntmps6
  go_wp2_with fail
  with_reducible refine KR.out.mono ?_
  rintro e w1 ⟨rfl, hb⟩
  have HB1 := Lib.hid (HB.out.trans (hb.mono HB.out.size))
  obtain ⟨d0, d1, -, -, -⟩ := HC.out w1 hb
  have K1 := Lib.hid (KT.out w1.drew ((HBD.out.below hb).below (Below.refl _ w1).drew))
  clear hb KR HC KT HBD
  generalize w.heap.size = z at d0 d1 ⊢
  go_wp2_with fail
  go_region_with (go_at_call 18; refine K1.out.mono ?_; rintro e w2 ⟨rfl, rfl⟩)
  all_goals go_wp2
  all_goals go_ret
  all_goals exact ⟨w1.heap.size, rfl, HB1.out.size, heap_alloc_new w1.drew _, HB1.out.trans (((Below.refl _ w1).drew.alloc (Nat.le_refl _) _).mono HB1.out.size)⟩
end Go.Proofs.YtdmmgnicbemghaaDoor
