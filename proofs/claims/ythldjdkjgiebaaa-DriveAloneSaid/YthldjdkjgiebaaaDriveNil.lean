/-
  The walk of Alone without a routine. By an AI agent.
-/
import Derived.Test.YthldjdkjgiebaaaDriveAlone
set_option linter.unusedSimpArgs false
set_option linter.unusedVariables false
namespace Go.Proofs.Ythldjdkjgiebaaa
open Go.RowKit Go.Shelf Go.Maps
open Mm (Mem Blk)
open Ac (A)
attribute [local go_sem] Oper.semAt_some
/-- The boxes of Alone, without a routine. -/
def BxN (n0 : Nat) (W : World) : Prop := Boxed W n0 3 (.int .i64 5) ∧ Boxed W (n0 + 1) 3 (.int .i64 0) ∧ Boxed W (n0 + 1 + 1) 30 (.pointer none) ∧ Boxed W (n0 + 1 + 1 + 1) 57 .nilIface
theorem BxN.keep {n0 : Nat} {W W' : World} (h : BxN n0 W) (hk : ∀ j, n0 ≤ j → j < n0 + 4 → W'.heap[j]? = W.heap[j]?) : BxN n0 W' :=
  ⟨boxed_keep h.1 (hk _ (by omega) (by omega)), boxed_keep h.2.1 (hk _ (by omega) (by omega)), boxed_keep h.2.2.1 (hk _ (by omega) (by omega)), boxed_keep h.2.2.2 (hk _ (by omega) (by omega))⟩
theorem BxN.alloc {n0 : Nat} {W : World} (h : BxN n0 W) (o : Obj) : BxN n0 (W.alloc o) := ⟨h.1.alloc _, h.2.1.alloc _, h.2.2.1.alloc _, h.2.2.2.alloc _⟩
theorem below_put {n : Nat} {W : World} {l : Nat} {o' : Obj} (hl : n ≤ l) : Below n W (W.putObj l o') := ⟨rfl, rfl, rfl, by simp [World.putObj], fun k hk => World.putObj_heap_other (by omega)⟩
set_option maxRecDepth 100000 in
set_option maxHeartbeats 4000000 in
theorem alonenil_in (n : Nat) (hn : 9 ≤ n) (w : World) :
    CallsIn Fence.wide n Try.prog 6 #[.pointer none, .nilIface, .int .i64 5] w (Gives (.tuple #[.int .i64 0, .bool true]) w) := by
  have g1 : 1 ≤ n := by omega
  have KS := Lib.hid (fun (n : Nat) (w1 : World) => steps_call n (.pointer none) .nilIface rfl rfl w1)
  have KN := Lib.hid (fun (w1 : World) => next_nil w1)
  have hf1 : Fence.wide.fn 19 := trivial
  have hf2 : Fence.wide.fn 20 := trivial
  refine callsIn_of_wp_marks Try.func6 rfl trivial ?_ rfl
  simp only [Try.ntmps6, List.size_toArray, List.length_cons, List.length_nil, Nat.reduceAdd, Nat.reduceSub, Array.replicate_succ, Array.replicate_zero, List.push_toArray, List.append_toArray, List.nil_append, List.cons_append]
  gi_wp2_with (gi_at_call 19; refine (KS.out _ _).mono ?_; rintro e w1 ⟨rfl, rfl⟩)
  obtain ⟨w4, hw4⟩ : ∃ w4, w4 = ((((w.alloc (.cells #[.int .i64 5] 3)).alloc (.cells #[.int .i64 0] 3)).alloc (.cells #[.pointer none] 30)).alloc (.cells #[.nilIface] 57)) := ⟨_, rfl⟩
  have hz4 : w4.heap.size = w.heap.size + 4 := by rw [hw4]; simp
  have hb4 : Below w.heap.size w w4 := by rw [hw4]; exact ((((Below.refl _ w).alloc (Nat.le_refl _) _).alloc (by simp) _).alloc (by simp; omega) _).alloc (by simp; omega) _
  have x0 : Boxed w4 w.heap.size 3 (.int .i64 5) := by rw [hw4]; exact (((Boxed.new w 3 (.int .i64 5)).alloc _).alloc _).alloc _
  have x1 : Boxed w4 (w.heap.size + 1) 3 (.int .i64 0) := by rw [hw4]; have := Boxed.new (w.alloc (.cells #[.int .i64 5] 3)) 3 (.int .i64 0); rw [World.size_alloc] at this; exact (this.alloc _).alloc _
  have x2 : Boxed w4 (w.heap.size + 1 + 1) 30 (.pointer none) := by rw [hw4]; have := Boxed.new ((w.alloc (.cells #[.int .i64 5] 3)).alloc (.cells #[.int .i64 0] 3)) 30 (.pointer none); rw [World.size_alloc, World.size_alloc] at this; exact this.alloc _
  have x3 : Boxed w4 (w.heap.size + 1 + 1 + 1) 57 .nilIface := by rw [hw4]; have := Boxed.new (((w.alloc (.cells #[.int .i64 5] 3)).alloc (.cells #[.int .i64 0] 3)).alloc (.cells #[.pointer none] 30)) 57 .nilIface; rw [World.size_alloc, World.size_alloc, World.size_alloc] at this; exact this
  rw [← hw4]
  clear hw4
  obtain ⟨n0, hn0⟩ : ∃ n0, n0 = w.heap.size := ⟨_, rfl⟩
  rw [← hn0] at x0 x1 x2 x3 hz4 ⊢
  have hnA : w.heap.size ≤ n0 := by omega
  have hnB : n0 ≤ w.heap.size := by omega
  clear hn0
  have hput : ∀ (W : World) (l : Nat) (o' : Obj), w4.heap.size ≤ l → Below w.heap.size w W ∧ BxN n0 W → Below w.heap.size w (W.putObj l o') ∧ BxN n0 (W.putObj l o') := fun W l o' hl ⟨h1, h2⟩ => ⟨h1.trans (below_put (by omega)), h2.keep fun j _ _ => World.putObj_heap_other (by omega)⟩
  refine range_steps (by omega) (n0 + 1 + 1) (n0 + 1 + 1 + 1) (.pointer none) .nilIface rfl rfl 0 (fun _ => ⟨0, 0, 0, 0, 0⟩) (fun _ => 0)
    (fun k W => k = 0 ∧ Below w.heap.size w W ∧ BxN n0 W ∧ n0 + 4 ≤ W.heap.size) (fun k W => False) (fun k a1 W => False) (fun W => Below w.heap.size w W ∧ BxN n0 W) (fun cd k W => False)
    (fun W => 0) ?bI ?bI2 ?bd ?bx ?h0 ?hmu ?hG ?hassign ?hbody ?hdone ?hstop
  case bI => exact fun s W l o o' ⟨h1, h2, h3, h4⟩ hl ho hr hr' => ⟨h1, (hput W l o' hl ⟨h2, h3⟩).1, (hput W l o' hl ⟨h2, h3⟩).2, by simpa [World.putObj] using h4⟩
  case bI2 => exact fun s W l o o' h => h.elim
  case bd => exact fun s W l o o' h hl ho hr hr' => hput W l o' hl h
  case bx => exact fun cd s W l o o' h => h.elim
  case h0 => exact fun r => ⟨rfl, (hb4.alloc (by omega) _).alloc (by simp; omega) _, BxN.alloc (BxN.alloc ⟨x0, x1, x2, x3⟩ _) _, by simp; omega⟩
  case hmu => rintro k W ⟨rfl, _⟩; exact ⟨Nat.le_refl _, rfl⟩
  case hG =>
    rintro k W ⟨rfl, h2, h3, h4⟩
    refine ⟨h3.2.2.1.cell, h3.2.2.2.cell, .inr ⟨rfl, (goon_nil (.pointer none) W).mono ?_⟩⟩
    rintro e W2 ⟨rfl, hb⟩
    have hw : w.heap.size ≤ W.heap.size := h2.size
    exact ⟨rfl, KeepsRec.below hb, (h2.trans (hb.mono hw)).alloc (Nat.le_trans hw hb.size) _, (h3.keep fun j g1 g2 => hb.block j (by omega)).alloc _⟩
  case hassign => exact fun l k W K h => h.elim
  case hbody => exact fun l k a1 W h => h.elim
  case hdone =>
    rintro D W hD ⟨hb0, hbx⟩ hK
    have hc := hbx.2.1.cell
    have HBX := Lib.hid hbx
    have HB0 := Lib.hid hb0
    have HK := Lib.hid hK
    clear hbx hb0 hK
    gi_wp2_with (gi_at_call 20; refine (callsIn_wide.2 (KN.out _)).mono ?_; rintro e W2 ⟨rfl, hb⟩; have hc2 := ((boxed_keep HBX.out.2.1 (hb.block _ HBX.out.2.1.lt)).alloc (.cells #[.int .i64 0, .int .u64 0, .int .i64 0, .int .u64 0, .int .u64 0] 42)).cell)
    have hK2 := KeepsRec.alloc W2 (.cells #[.int .i64 0, .int .u64 0, .int .i64 0, .int .u64 0, .int .u64 0] 42) _ _ (KeepsRec.below hb _ _ HK.out rfl) rfl
    refine ⟨by simp, .inl ⟨_, _, rfl, run_takeDeferred hK2, ?_⟩⟩
    have hw : w.heap.size ≤ W.heap.size := HB0.out.size
    exact ⟨_, results_tmp2 rfl _ _ _, rfl, ((HB0.out.trans (hb.mono hw)).alloc (Nat.le_trans hw hb.size) _).trans (below_put (by omega))⟩
  case hstop => exact fun D cd k W hD h => h.elim
theorem alone_nil (w : World) : Calls Try.prog 6 #[.pointer none, .nilIface, .int .i64 5] w (Gives (.tuple #[.int .i64 0, .bool true]) w) := (callsIn_wide (n := 9)).1 (alonenil_in 9 (by omega) w)
end Go.Proofs.Ythldjdkjgiebaaa
