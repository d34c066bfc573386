/-
  Several texts in one: The walks of route.Group, and of the statements' own loop over the groups; A seek as a block; the walks of what it makes of its own cells alone; The walks of what a seek reads of its own cells: its cells in the table, its words, its acts. By an AI agent.
-/
import Derived.Test.YtknefjigdlbacaaGreatDoorSkGAS
import Derived.Maps.OwnIn
import Derived.Test.YtknefjigdlbacaaGreatDoorSkGAE
import Derived.Test.YtknefjigdlbacaaGreatDoorSkGAL
import Derived.Test.YtknefjigdlbacaaGreatDoorSkGAR
import Derived.Test.YtknefjigdlbacaaGreatDoorSkGAI
import Derived.Deep.RegionHeld3
namespace Go.Proofs.YtknefjigdlbacaaGreatDoor
open Go.RowKit Go.Shelf
attribute [local go_sem] Oper.semAt_some
/-- What is handed back is a number; what was there lies as it lay. -/
def GivesInt (n : Int) (w : World) (e : Ending) (w' : World) : Prop := e = .returned (.int .i64 n) ∧ Below w.heap.size w w'
set_option maxRecDepth 100000 in
theorem func_nil (f : Nat) (cap : Array Value) (w : World) : (binOp .eql 161 (.func (.func f) #[] cap) .nilFunc).run Tryz.prog w = .ok (.bool false) w := by
  first | kernel_rfl | simp [binOp, go_sem] | rfl
set_option maxRecDepth 100000 in
set_option maxHeartbeats 2000000 in
theorem group_in (n : Nat) (hn : 5 ≤ n) (h : Nat) (hh : h ≤ 18446744073709551615) (log i : Int) (w : World) :
    CallsIn Fence.wide n Tryz.prog 73 #[.int .u64 (h : Int), .int .i64 log, .int .i64 i] w (GivesInt (Rt.gp h log i) w) := by
  have h1 : 1 ≤ n := by omega
  have hf : Fence.wide.fn 122 := trivial
  refine callsIn_of_wp_marks Tryz.func73 rfl trivial ?_ rfl
  simp only [Tryz.ntmps73, List.size_toArray, List.length_cons, List.length_nil, Nat.reduceAdd, Nat.reduceSub, Array.replicate_succ, Array.replicate_zero, List.push_toArray, List.append_toArray, List.nil_append, List.cons_append]
  gi_wp2_with (gi_at_call 122; refine (all_call (n - 1) _ _ _).mono ?_; rintro e w' ⟨rfl, rfl⟩)
  have b0 := Boxed.new w 3 (.int .i64 i)
  have b1 := Boxed.new (w.alloc (.cells #[.int .i64 i] 3)) 3 (.int .i64 0)
  have b2 := Boxed.new ((w.alloc (.cells #[.int .i64 i] 3)).alloc (.cells #[.int .i64 0] 3)) 3 (.int .i64 0)
  have b3 := Boxed.new (((w.alloc (.cells #[.int .i64 i] 3)).alloc (.cells #[.int .i64 0] 3)).alloc (.cells #[.int .i64 0] 3)) 22 (.int .u64 (h : Int))
  have b4 := Boxed.new ((((w.alloc (.cells #[.int .i64 i] 3)).alloc (.cells #[.int .i64 0] 3)).alloc (.cells #[.int .i64 0] 3)).alloc (.cells #[.int .u64 (h : Int)] 22)) 3 (.int .i64 log)
  simp only [World.size_alloc] at b1 b2 b3 b4
  have hB0 : Below w.heap.size w (((((w.alloc (.cells #[.int .i64 i] 3)).alloc (.cells #[.int .i64 0] 3)).alloc (.cells #[.int .i64 0] 3)).alloc (.cells #[.int .u64 (h : Int)] 22)).alloc (.cells #[.int .i64 log] 3)) := (((((Below.refl _ w).alloc (Nat.le_refl _) _).alloc (by simp) _).alloc (by simp; omega) _).alloc (by simp; omega) _).alloc (by simp; omega) _
  refine wpIn_rangeFunc_ownG rfl h1 (gf := 149) (lb := #[.pointer (some ⟨w.heap.size + 1 + 1 + 1 + 1, 0, none⟩), .pointer (some ⟨w.heap.size + 1 + 1 + 1, 0, none⟩)]) rfl trivial (enters_of Tryz.func149 (by kernel_rfl) rfl)
    (all_stops (n - 1) (by omega) log h hh (w.heap.size + 1 + 1 + 1 + 1) (w.heap.size + 1 + 1 + 1) _ (by simp) (by simp) b4.cell (b3.alloc _).cell) Kp2.t (fun W l o o' _ h hc _ => Kp2.b W l o o' h hc) (Below.refl _ _) (fun _ => rfl)
    (fun pre W => (((Boxed W w.heap.size 3 (.int .i64 i) ∧ Boxed W (w.heap.size + 1) 3 (.int .i64 0)) ∧ Boxed W (w.heap.size + 1 + 1) 3 (.int .i64 (pre.length : Int))) ∧ ¬ (0 ≤ i ∧ i < (pre.length : Int))) ∧ Below w.heap.size w W)
    (fun c pre W => (Boxed W (w.heap.size + 1) 3 (.int .i64 ((pre.getLastD 0 : Nat) : Int)) ∧ (c = .ret ∧ (pre.length : Int) = i + 1 ∧ 0 ≤ i)) ∧ Below w.heap.size w W)
    (OwnFrom.and (OwnFrom.and (OwnFrom.and (OwnFrom.and (Own.from (boxed_own _ _ (fun _ : List Nat => .int .i64 i)) _) (Own.from (boxed_own _ _ (fun _ : List Nat => .int .i64 0)) _)) (Own.from (boxed_own _ _ (fun pre : List Nat => .int .i64 (pre.length : Int))) _)) (ownFrom_pure _ (fun pre : List Nat => ¬ (0 ≤ i ∧ i < (pre.length : Int))))) (ownFrom_below (Nat.le_refl _) (by simp; omega)))
    (fun c => OwnFrom.and (OwnFrom.and (Own.from (boxed_own _ _ (fun pre : List Nat => .int .i64 ((pre.getLastD 0 : Nat) : Int))) _) (ownFrom_pure _ (fun pre : List Nat => c = .ret ∧ (pre.length : Int) = i + 1 ∧ 0 ≤ i))) (ownFrom_below (Nat.le_refl _) (by simp; omega)))
    ⟨⟨⟨⟨(((b0.alloc _).alloc _).alloc _).alloc _, ((b1.alloc _).alloc _).alloc _⟩, (b2.alloc _).alloc _⟩, by simp⟩, hB0⟩
    (fun k => { tmps := #[.int .u64 (h : Int), .int .i64 log, .int .i64 i, undef, undef, .pointer (some ⟨w.heap.size, 0, none⟩), .pointer (some ⟨w.heap.size + 1, 0, none⟩), .pointer (some ⟨w.heap.size + 1 + 1, 0, none⟩), .int .i64 (k : Int), .int .u64 (h : Int), .int .i64 log, .func (.func 149) #[] #[.pointer (some ⟨w.heap.size + 1 + 1 + 1 + 1, 0, none⟩), .pointer (some ⟨w.heap.size + 1 + 1 + 1, 0, none⟩)], .int .i64 (k : Int), undef, undef, undef, undef, undef, undef], defers := [] }) ?assign ?body ?done ?stop
  case assign =>
    intro l k W K hK
    gi_wp2
    exact hK
  case body =>
    rintro l pre k W ⟨⟨⟨⟨hv0, hv1⟩, hv2⟩, hno⟩, hB⟩ hlt
    have c0 := hv0.cell
    have c1 := hv1.cell
    have c2 := hv2.cell
    have f1 := hv1.frozen
    have f2 := hv2.frozen
    by_cases he : (pre.length : Int) = i
    · have he' : ((pre.length : Int) == i) = true := by simp [he]
      have He := Lib.hid he; clear he
      gi_wp2
      exact ⟨(KeepsOthers.setCell _ _ _).from _, ⟨by simpa using hv1.set (.int .i64 (k : Int)), rfl, by have := He.out; simp; omega, by have := He.out; omega⟩, hB.setCell (p := ⟨w.heap.size + 1, 0, none⟩) (by simp) _⟩
    · have he' : ((pre.length : Int) == i) = false := by simp [he]
      have He := Lib.hid he; clear he
      gi_wp2
      exact ⟨(KeepsOthers.setCell _ _ _).from _, Kp2.set _ _ (by omega) (by omega), ⟨⟨⟨hv0.other (by omega) _, hv1.other (by omega) _⟩, by have := hv2.set (.int .i64 ((pre.length : Int) + 1)); simpa using this⟩, by have := He.out; simp; omega⟩, hB.setCell (p := ⟨w.heap.size + 1 + 1, 0, none⟩) (by simp; omega) _⟩
  case done =>
    rintro D ys W hD hys ⟨⟨⟨⟨hv0, hv1⟩, hv2⟩, hno⟩, hB⟩ hK
    have hc := hv1.cell
    have hfz := hv1.frozen
    have hend : (-1 : Int) = Rt.gp h log i := (Rt.gp_out (by rw [hys, Rt.way_len] at hno; omega)).symm
    have Hys := Lib.hid hend; clear hend hys
    gi_wp2
    have hK' := (KeepsOthers.setCell W ⟨w.heap.size + 1, 0, none⟩ (.int .i64 (-1))).same D _ hK rfl
    refine ⟨by simp, .inl ⟨_, _, rfl, run_takeDeferred hK', ?_⟩⟩
    have hc5 := cell_kept (hv1.set (.int .i64 (-1))).cell (grownBy_putObj' _ D (.deferred none)) (fun r e => by cases e; exact ⟨_, hK', rfl⟩)
    refine ⟨.int .i64 (-1), ?_, ret_int Hys.out, (hB.setCell (p := ⟨w.heap.size + 1, 0, none⟩) (by simp) _).trans (belowK_b (w := w) (Nat.le_refl _) _ D _ _ (by simp at hD; omega) hK' rfl rfl)⟩
    simp [results, Tryz.f73, go_sem, hc5]
  case stop =>
    rintro D c pre W hD hpre ⟨⟨hv, rfl, hl, hi0⟩, hB⟩ hK
    have hend := Lib.hid (Rt.gp_last hpre hl hi0)
    gi_wp2
    refine ⟨by simp, .inl ⟨_, _, rfl, run_takeDeferred hK, ?_⟩⟩
    have hc5 := cell_kept hv.cell (grownBy_putObj' _ D (.deferred none)) (fun r e => by cases e; exact ⟨_, hK, rfl⟩)
    refine ⟨.int .i64 ((pre.getLastD 0 : Nat) : Int), ?_, ret_int hend.out, hB.trans (belowK_b (w := w) (Nat.le_refl _) W D _ _ (by simp at hD; omega) hK rfl rfl)⟩
    simp [results, Tryz.f73, go_sem, hc5]
/-- route.Group. -/
theorem group_any (h : Nat) (hh : h ≤ 18446744073709551615) (log i : Int) (w : World) : Calls Tryz.prog 73 #[.int .u64 (h : Int), .int .i64 log, .int .i64 i] w (GivesInt (Rt.gp h log i) w) :=
  (callsIn_wide (n := 9)).1 (group_in 9 (by omega) h hh log i w)
end Go.Proofs.YtknefjigdlbacaaGreatDoor
set_option linter.unusedSimpArgs false
set_option linter.unusedVariables false
namespace Go.Proofs.YtknefjigdlbacaaGreatDoor
open Go.RowKit Go.Maps
open Ac (A)
/-- A seek's cells. -/
def kcs (c : Sk.C) (s : Sk.S) (vc vs vr : Value) : Array Value := #[.int .i64 (s.p : Int), .int .u64 (c.d : Int), .int .i64 (c.th : Int), .int .i64 c.nn, .int .i64 c.kp, .int .u64 (c.sd : Int), .int .u64 (c.b : Int), .int .i64 c.lg, .string ⟨c.key.toArray⟩, .int .u64 (c.h : Int), .int .u64 (c.lay : Int), .bool s.chk, .int .i64 (s.n : Int), .int .i64 s.g, .int .i64 (s.i : Int), .int .u64 (s.w : Int), .int .u64 (s.x : Int), vc, vs, vr, .int .i64 (s.f.k : Int), .int .i64 s.f.c, .int .u64 (s.f.w : Int), .string ⟨s.f.v.toArray⟩]
/-- A seek as a block. -/
def Kb (w : World) (q : Nat) (c : Sk.C) (s : Sk.S) (vc vs vr : Value) : Prop := w.heap[q]? = some (.cells (kcs c s vc vs vr) 74 (0, 0))
section
variable {w w' : World} {q : Nat} {c : Sk.C} {s : Sk.S} {vc vs vr : Value}
theorem Kb.lt (h : Kb w q c s vc vs vr) : q < w.heap.size := (Array.getElem?_eq_some_iff.1 h).1
theorem Kb.keep (h : Kb w q c s vc vs vr) (e : w'.heap[q]? = w.heap[q]?) : Kb w' q c s vc vs vr := e.trans h
theorem Kb.below (h : Kb w q c s vc vs vr) (hb : Below w.heap.size w w') : Kb w' q c s vc vs vr := h.keep (hb.block q h.lt)
theorem Kb.fz (h : Kb w q c s vc vs vr) (j : Nat) : w.frozen? ⟨q, j, none⟩ = false := by simp [World.frozen?, show w.heap[q]? = _ from h]
theorem Kb.cell (h : Kb w q c s vc vs vr) (j : Nat) {v : Value} (hv : (kcs c s vc vs vr)[j]? = some v) : w.cell? ⟨q, j, none⟩ = some v := by simp [World.cell?, show w.heap[q]? = _ from h, hv]
theorem Kb.c0 (h : Kb w q c s vc vs vr) : w.cell? ⟨q, 0, none⟩ = some (.int .i64 (s.p : Int)) := h.cell 0 rfl
theorem Kb.c1 (h : Kb w q c s vc vs vr) : w.cell? ⟨q, 1, none⟩ = some (.int .u64 (c.d : Int)) := h.cell 1 rfl
theorem Kb.c2 (h : Kb w q c s vc vs vr) : w.cell? ⟨q, 2, none⟩ = some (.int .i64 (c.th : Int)) := h.cell 2 rfl
theorem Kb.c3 (h : Kb w q c s vc vs vr) : w.cell? ⟨q, 3, none⟩ = some (.int .i64 c.nn) := h.cell 3 rfl
theorem Kb.c4 (h : Kb w q c s vc vs vr) : w.cell? ⟨q, 4, none⟩ = some (.int .i64 c.kp) := h.cell 4 rfl
theorem Kb.c5 (h : Kb w q c s vc vs vr) : w.cell? ⟨q, 5, none⟩ = some (.int .u64 (c.sd : Int)) := h.cell 5 rfl
theorem Kb.c6 (h : Kb w q c s vc vs vr) : w.cell? ⟨q, 6, none⟩ = some (.int .u64 (c.b : Int)) := h.cell 6 rfl
theorem Kb.c7 (h : Kb w q c s vc vs vr) : w.cell? ⟨q, 7, none⟩ = some (.int .i64 c.lg) := h.cell 7 rfl
theorem Kb.c8 (h : Kb w q c s vc vs vr) : w.cell? ⟨q, 8, none⟩ = some (.string ⟨c.key.toArray⟩) := h.cell 8 rfl
theorem Kb.c9 (h : Kb w q c s vc vs vr) : w.cell? ⟨q, 9, none⟩ = some (.int .u64 (c.h : Int)) := h.cell 9 rfl
theorem Kb.c10 (h : Kb w q c s vc vs vr) : w.cell? ⟨q, 10, none⟩ = some (.int .u64 (c.lay : Int)) := h.cell 10 rfl
theorem Kb.c11 (h : Kb w q c s vc vs vr) : w.cell? ⟨q, 11, none⟩ = some (.bool s.chk) := h.cell 11 rfl
theorem Kb.c12 (h : Kb w q c s vc vs vr) : w.cell? ⟨q, 12, none⟩ = some (.int .i64 (s.n : Int)) := h.cell 12 rfl
theorem Kb.c13 (h : Kb w q c s vc vs vr) : w.cell? ⟨q, 13, none⟩ = some (.int .i64 s.g) := h.cell 13 rfl
theorem Kb.c14 (h : Kb w q c s vc vs vr) : w.cell? ⟨q, 14, none⟩ = some (.int .i64 (s.i : Int)) := h.cell 14 rfl
theorem Kb.c15 (h : Kb w q c s vc vs vr) : w.cell? ⟨q, 15, none⟩ = some (.int .u64 (s.w : Int)) := h.cell 15 rfl
theorem Kb.c16 (h : Kb w q c s vc vs vr) : w.cell? ⟨q, 16, none⟩ = some (.int .u64 (s.x : Int)) := h.cell 16 rfl
theorem Kb.c17 (h : Kb w q c s vc vs vr) : w.cell? ⟨q, 17, none⟩ = some (vc) := h.cell 17 rfl
theorem Kb.c18 (h : Kb w q c s vc vs vr) : w.cell? ⟨q, 18, none⟩ = some (vs) := h.cell 18 rfl
theorem Kb.c19 (h : Kb w q c s vc vs vr) : w.cell? ⟨q, 19, none⟩ = some (vr) := h.cell 19 rfl
theorem Kb.c20 (h : Kb w q c s vc vs vr) : w.cell? ⟨q, 20, none⟩ = some (.int .i64 (s.f.k : Int)) := h.cell 20 rfl
theorem Kb.c21 (h : Kb w q c s vc vs vr) : w.cell? ⟨q, 21, none⟩ = some (.int .i64 s.f.c) := h.cell 21 rfl
theorem Kb.c22 (h : Kb w q c s vc vs vr) : w.cell? ⟨q, 22, none⟩ = some (.int .u64 (s.f.w : Int)) := h.cell 22 rfl
theorem Kb.c23 (h : Kb w q c s vc vs vr) : w.cell? ⟨q, 23, none⟩ = some (.string ⟨s.f.v.toArray⟩) := h.cell 23 rfl
/-- A cell anew. -/
theorem Kb.st (h : Kb w q c s vc vs vr) (j : Nat) (v : Value) {s' : Sk.S} {vc' vs' vr' : Value} (e : (kcs c s vc vs vr).setIfInBounds j v = kcs c s' vc' vs' vr') : Kb (w.setCell ⟨q, j, none⟩ v) q c s' vc' vs' vr' := by
  unfold Kb at h ⊢
  rw [heap_setc h _ _]
  first | rw [← e] | (congr 1; rw [← e]; rfl) | (rw [← e]; simp)
end
/-- A found, as a value. -/
abbrev fv (f : Sk.F) : Value := .agg #[.int .i64 (f.k : Int), .int .i64 f.c, .int .u64 (f.w : Int), .string ⟨f.v.toArray⟩]
/-- Only the seek's own cells have changed. -/
def Ends (q : Nat) (c : Sk.C) (s : Sk.S) (vc vs vr : Value) (v : Value) (w : World) (e : Ending) (w' : World) : Prop := e = .returned v ∧ Kb w' q c s vc vs vr ∧ Chg q w w'
set_option maxHeartbeats 1000000 in
theorem kend_any {w : World} {q : Nat} {c : Sk.C} {s : Sk.S} {vc vs vr : Value} (h : Kb w q c s vc vs vr) (k : Nat) (cc : Int) (ww : Nat) (vv : ByteArray) :
    Calls Tryz.prog 74 #[.pointer (some ⟨q, 0, none⟩), .agg #[.int .i64 (k : Int), .int .i64 cc, .int .u64 (ww : Int), .string vv]] w (Ends q c (Sk.fin s ⟨k, cc, ww, vv.data.toList⟩) vc vs vr (.tuple #[]) w) := by
  have HL := Lib.hid h.lt
  have hB : ∀ o, Below w.heap.size w (w.alloc o) := fun o => (Below.refl _ w).alloc (Nat.le_refl _) o
  have HH : Hid (∀ o, Ends q c (Sk.fin s ⟨k, cc, ww, vv.data.toList⟩) vc vs vr (.tuple #[]) w (.returned (.tuple #[])) ((((((w.alloc o).setCell ⟨q, 20, none⟩ (.int .i64 (k : Int))).setCell ⟨q, 21, none⟩ (.int .i64 cc)).setCell ⟨q, 22, none⟩ (.int .u64 (ww : Int))).setCell ⟨q, 23, none⟩ (.string vv)).setCell ⟨q, 0, none⟩ (.int .i64 0))) := Lib.hid (fun o => by
    have h0 := h.below (hB o)
    have h1 := h0.st (s' := { s with f := { s.f with k := k } }) (vc' := vc) (vs' := vs) (vr' := vr) 20 (.int .i64 (k : Int)) rfl
    have h2 := h1.st (s' := { s with f := { s.f with k := k, c := cc } }) (vc' := vc) (vs' := vs) (vr' := vr) 21 (.int .i64 cc) rfl
    have h3 := h2.st (s' := { s with f := { s.f with k := k, c := cc, w := ww } }) (vc' := vc) (vs' := vs) (vr' := vr) 22 (.int .u64 (ww : Int)) rfl
    have h4 := h3.st (s' := { s with f := ⟨k, cc, ww, vv.data.toList⟩ }) (vc' := vc) (vs' := vs) (vr' := vr) 23 (.string vv) (by simp [kcs])
    have h5 := h4.st (s' := Sk.fin s ⟨k, cc, ww, vv.data.toList⟩) (vc' := vc) (vs' := vs) (vr' := vr) 0 (.int .i64 0) rfl
    exact ⟨rfl, h5, ((((((show Chg q w (w.alloc o) from Tn.of_below (hB o)).set 20 _ h0.lt).set 21 _ h1.lt).set 22 _ h2.lt).set 23 _ h3.lt).set 0 _ h4.lt)⟩)
  have f0 : ∀ o, (w.alloc o).frozen? ⟨q, 20, none⟩ = false ∧ (w.alloc o).frozen? ⟨q, 21, none⟩ = false ∧ (w.alloc o).frozen? ⟨q, 22, none⟩ = false ∧ (w.alloc o).frozen? ⟨q, 23, none⟩ = false ∧ (w.alloc o).frozen? ⟨q, 0, none⟩ = false := fun o => ⟨(h.below (hB o)).fz _, (h.below (hB o)).fz _, (h.below (hB o)).fz _, (h.below (hB o)).fz _, (h.below (hB o)).fz _⟩
  have e0 : ∀ o, (w.alloc o).cell? ⟨q, 20, none⟩ = some (.int .i64 (s.f.k : Int)) ∧ (w.alloc o).cell? ⟨q, 21, none⟩ = some (.int .i64 s.f.c) ∧ (w.alloc o).cell? ⟨q, 22, none⟩ = some (.int .u64 (s.f.w : Int)) ∧ (w.alloc o).cell? ⟨q, 23, none⟩ = some (.string ⟨s.f.v.toArray⟩) ∧ (w.alloc o).cell? ⟨q, 0, none⟩ = some (.int .i64 (s.p : Int)) := fun o => ⟨(h.below (hB o)).c20, (h.below (hB o)).c21, (h.below (hB o)).c22, (h.below (hB o)).c23, (h.below (hB o)).c0⟩
  have HF := Lib.hid f0; have HE := Lib.hid e0; clear f0 e0 h hB
  obtain ⟨g1, g2, g3, g4, g5⟩ := HF.out (.cells #[.int .i64 (k : Int), .int .i64 cc, .int .u64 (ww : Int), .string vv] 40)
  obtain ⟨d1, d2, d3, d4, d5⟩ := HE.out (.cells #[.int .i64 (k : Int), .int .i64 cc, .int .u64 (ww : Int), .string vv] 40)
  go_enter Tryz.func74, Tryz.ntmps74
  go_wp2
  refine bodyPost_end (results_none rfl _ _ _) rfl ?_
  exact HH.out _
end Go.Proofs.YtknefjigdlbacaaGreatDoor
set_option linter.unusedSimpArgs false
set_option linter.unusedVariables false
namespace Go.Proofs.YtknefjigdlbacaaGreatDoor
open Go.RowKit Go.Maps
open Ac (A)
set_option maxRecDepth 100000 in
set_option maxHeartbeats 2000000 in
theorem kgroup_any {w : World} {q : Nat} {c : Sk.C} {s : Sk.S} {vc vs vr : Value} (h : Kb w q c s vc vs vr) (g0 : -9223372036854775808 ≤ s.g) (g1 : s.g ≤ 9223372036854775807) :
    Calls Tryz.prog 26 #[.pointer (some ⟨q, 0, none⟩)] w (Gives (.int .i64 (Sk.gcell c s)) w) := by
  have HK := Lib.hid (fun W => tgroup_any c.lg s.g W g0 g1)
  have HH := Lib.hid h
  have c7 := h.c7
  have c13 := h.c13
  unfold Sk.gcell
  generalize Tb.gc (Tb.grp c.lg) s.g = r at *
  generalize s.g = g at *
  generalize c.lg = l at *
  clear h g0 g1
  go_enter Tryz.func26, Tryz.ntmps26
  go_wp2
  go_region_with (go_at_call 76; refine (HK.out _).mono ?_; rintro e w2 ⟨rfl, hb2⟩)
  all_goals go_wp2
  all_goals go_ret
  all_goals exact ⟨rfl, ((Below.refl _ w).drew).trans (by simpa using hb2)⟩
set_option maxRecDepth 100000 in
set_option maxHeartbeats 2000000 in
theorem kslot_any {w : World} {q : Nat} {c : Sk.C} {s : Sk.S} {vc vs vr : Value} (h : Kb w q c s vc vs vr) (g0 : -9223372036854775808 ≤ s.g) (g1 : s.g ≤ 9223372036854775807) (hi : s.i ≤ 8) :
    Calls Tryz.prog 31 #[.pointer (some ⟨q, 0, none⟩)] w (Gives (.int .i64 (Sk.scell c s)) w) := by
  have HK := Lib.hid (fun W => tslot_any c.lg s.g s.i W g0 g1 (by omega) (by omega))
  have c7 := h.c7
  have c13 := h.c13
  have c14 := h.c14
  unfold Sk.scell
  generalize Tb.sc (Tb.grp c.lg) s.g s.i = r at *
  generalize s.g = g at *
  generalize s.i = i at *
  generalize c.lg = l at *
  clear h g0 g1 hi
  go_enter Tryz.func31, Tryz.ntmps31
  go_wp2
  go_region_with (go_at_call 82; refine (HK.out _).mono ?_; rintro e w2 ⟨rfl, hb2⟩)
  all_goals go_wp2
  all_goals go_ret
  all_goals exact ⟨rfl, ((Below.refl _ w).drew).trans (by simpa using hb2)⟩
set_option maxRecDepth 100000 in
set_option maxHeartbeats 2000000 in
theorem kclaimed_any {w : World} {q : Nat} {c : Sk.C} {s : Sk.S} {vc vs vr : Value} (h : Kb w q c s vc vs vr) (hh : c.h < 18446744073709551616) (hw : s.w < 18446744073709551616) :
    Calls Tryz.prog 29 #[.pointer (some ⟨q, 0, none⟩)] w (Gives (.int .u64 (Sk.clmd c s : Nat)) w) := by
  have HC := Lib.hid (fun W => claim_any (c.h : Int) W (by omega) (by omega))
  have HK := Lib.hid (fun W => cclaim_any (s.w : Int) (s.i : Int) (Sk.cl c) W (by omega) (by omega))
  rw [← Sk.clmd_int hw] at HK
  unfold Sk.cl at HK
  have c15 := h.c15
  have c14 := h.c14
  have c9 := h.c9
  generalize Sk.clmd c s = r at *
  generalize 128 + (c.h : Int) % 128 = k at *
  generalize c.h = h0 at *
  generalize s.i = i at *
  generalize s.w = ww at *
  clear h hw
  go_enter Tryz.func29, Tryz.ntmps29
  go_wp2
  go_region_held3 (fun w' => w'.cell? ⟨q, 15, none⟩ = some (.int .u64 (ww : Int)) ∧ w'.cell? ⟨q, 14, none⟩ = some (.int .i64 (i : Int)) ∧ w'.cell? ⟨q, 9, none⟩ = some (.int .u64 (h0 : Int)))
    (first | exact ⟨c15, c14, c9⟩ | fail)
    (first | (go_at_call 81; refine (HC.out _).mono ?_; rintro e w2 ⟨rfl, rfl⟩) | (go_at_call 80; refine (HK.out _).mono ?_; rintro e w2 ⟨rfl, rfl⟩) | fail)
  go_wp2
  go_ret
  exact ⟨rfl, (Below.refl _ w).drew⟩
set_option maxHeartbeats 1000000 in
theorem klaid_any {w : World} {q : Nat} {c : Sk.C} {s : Sk.S} {vc vs vr : Value} (h : Kb w q c s vc vs vr) (hl : c.lay < 18446744073709551616) :
    Calls Tryz.prog 32 #[.pointer (some ⟨q, 0, none⟩)] w (Same (.int .u64 (Sk.laidw c : Nat)) w) := by
  have HK := Lib.hid (fun W => tgmake_any (c.lay : Int) 1 W (by omega) (by omega) (by omega) (by omega))
  have c10 := h.c10
  have e : Tg.mk (c.lay : Int) 1 = ((Sk.laidw c : Nat) : Int) := by unfold Tg.mk Sk.laidw; omega
  rw [e] at HK
  generalize Sk.laidw c = r at *
  generalize c.lay = k at *
  clear h e hl
  go_enter Tryz.func32, Tryz.ntmps32
  go_wp2_with fail
  with_reducible refine (HK.out _).mono ?_
  rintro e w1 ⟨rfl, rfl⟩
  go_wp2
  go_ret
  exact ⟨rfl, rfl⟩
set_option maxHeartbeats 1000000 in
theorem kload_any {w : World} {q : Nat} {c : Sk.C} {s : Sk.S} {vc vs vr : Value} (h : Kb w q c s vc vs vr) (i : Int) :
    Calls Tryz.prog 25 #[.pointer (some ⟨q, 0, none⟩), .int .i64 i] w (Gives (av ⟨1, c.b, i, 0, 0⟩) w) := by
  have c6 : ∀ o, (w.alloc o).cell? ⟨q, 6, none⟩ = some (.int .u64 (c.b : Int)) := fun o => (h.below ((Below.refl _ w).alloc (Nat.le_refl _) o)).c6
  generalize c.b = b at *
  clear h
  go_enter Tryz.func25, Tryz.ntmps25
  go_wp2
  exact bodyPost_ret (v := av ⟨1, b, i, 0, 0⟩) (by simp [results, Tryz.results25, go_sem]) rfl ⟨rfl, (Below.refl _ w).alloc (Nat.le_refl _) _⟩
set_option maxHeartbeats 1000000 in
theorem kcas_any {w : World} {q : Nat} {c : Sk.C} {s : Sk.S} {vc vs vr : Value} (h : Kb w q c s vc vs vr) (i : Int) (o n : Nat) :
    Calls Tryz.prog 28 #[.pointer (some ⟨q, 0, none⟩), .int .i64 i, .int .u64 (o : Int), .int .u64 (n : Int)] w (Gives (av ⟨3, c.b, i, o, n⟩) w) := by
  have c6 : ∀ o, (w.alloc o).cell? ⟨q, 6, none⟩ = some (.int .u64 (c.b : Int)) := fun o => (h.below ((Below.refl _ w).alloc (Nat.le_refl _) o)).c6
  generalize c.b = b at *
  clear h
  go_enter Tryz.func28, Tryz.ntmps28
  go_wp2
  exact bodyPost_ret (v := av ⟨3, b, i, o, n⟩) (by simp [results, Tryz.results28, go_sem]) rfl ⟨rfl, (Below.refl _ w).alloc (Nat.le_refl _) _⟩
end Go.Proofs.YtknefjigdlbacaaGreatDoor
