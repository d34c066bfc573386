/-
  The walks of All: the function that hands the pairs out, for whatever loop body. By an AI agent.
-/
import Derived.RangeFuncNested
import Derived.RangeFuncBound
import Derived.RangeFuncCalls
import Derived.RangeFuncLeaves
import Derived.RangeFuncBox
import Derived.Shelf.Abstract
import Derived.Shelf.RegionOpen
import Derived.WalkKit
import Derived.OwnWalkIn
import Derived.TacticsInMore
import Derived.LoopNIn
import Derived.LoopIn
import Derived.Test.YtigopifioijjlaaDictOps
namespace Go.Proofs.Ytigopifioijjlaa
open Go.RowKit Go.Shelf
open Dc (Pr)
attribute [local go_sem] Oper.semAt_some
/-- The block of the slice that the cell (b, o) holds. -/
def fp (b o : Nat) (W : World) : Option Nat := (W.cell? ⟨b, o, none⟩).bind Value.ownBlock
/-- What the iterator wants kept: all cells but those of block b, and of the slice that (b, o) holds. -/
structure Kp (b o : Nat) (W W' : World) : Prop where
  size : W.heap.size ≤ W'.heap.size
  block : ∀ k c t, W.heap[k]? = some (.cells c t (0, 0)) → k ≠ b → fp b o W ≠ some k → W'.heap[k]? = W.heap[k]?
  row : ∀ k, fp b o W' = some k → fp b o W = some k ∨ W.heap.size ≤ k
theorem Kp.t {b o : Nat} {X Y Z : World} (h : Kp b o X Y) (k : Kp b o Y Z) : Kp b o X Z := by
  refine ⟨Nat.le_trans h.size k.size, fun i c t hi hb hf => ?_, fun i hi => ?_⟩
  · have e := h.block i c t hi hb hf
    rw [← e]
    refine k.block i c t (e.trans hi) hb (fun e2 => ?_)
    rcases h.row i e2 with h1 | h1
    · exact hf h1
    · have := (Array.getElem?_eq_some_iff.1 hi).1; omega
  · rcases k.row i hi with h1 | h1
    · exact h.row i h1
    · exact .inr (Nat.le_trans h.size h1)
theorem fp_of_block {b o : Nat} {W W' : World} (h : W'.heap[b]? = W.heap[b]?) : fp b o W' = fp b o W := by
  unfold fp; rw [World.cell?_of_block (w := W) (a := ⟨b, o, none⟩) h]
theorem Kp.b {b o : Nat} (W : World) (l : Nat) (x x' : Obj) (hl : b ≠ l) (h : W.heap[l]? = some x) (hc : x.isCells = false) : Kp b o W (W.putObj l x') := by
  have hg := grownBy_putObj' W l x'
  refine ⟨hg.size, fun k c t hk _ _ => hg.block k (Array.getElem?_eq_some_iff.1 hk).1 (fun e => ?_), fun k hk => .inl ?_⟩
  · cases e; rw [hk] at h; cases h; cases hc
  · rw [← hk]
    rcases Nat.lt_or_ge b W.heap.size with hb | hb
    · exact (fp_of_block (hg.block b hb (fun e => hl (by cases e; rfl)))).symm
    · exact (fp_of_block (W' := W.putObj l x') (W := W) (by
        have h1 : (W.putObj l x').heap.size = W.heap.size := by simp [World.putObj]
        rw [Array.getElem?_eq_none (by omega), Array.getElem?_eq_none (by omega)])).symm
/-- How a round ends: it goes on, or it says that it wants no more. -/
def Went (b o : Nat) (J Jx : List Pr → World → Prop) (pre : List Pr) (W : World) (t : Bool) (W' : World) : Prop := (t = true ∧ J pre W' ∧ Kp b o W W') ∨ (t = false ∧ Jx pre W')
theorem grown_of_below {W W' : World} (h : Below W.heap.size W W') : W.grownBy W' none := ⟨h.os, h.tape, h.output, h.size, fun k hk _ => h.block k hk⟩
set_option maxRecDepth 100000 in
set_option maxHeartbeats 2000000 in
theorem all1_in (n y b1 B p kb ko : Nat) (hn : 3 ≤ n) (v : Value) (l : List Pr) (hl : l.length ≤ 1000000) (J Jx : List Pr → World → Prop) (W : World) (hJ : AbidesFrom W.heap.size J)
    (hY : ∀ pre (x : Pr) W1, J pre W1 → pre.length < l.length → YieldAt Fence.wide (n - 1) Try.prog y #[.string x.1, .string x.2] W1 fun e W' =>
      (e = .returned (.bool true) ∧ J (pre ++ [x]) W' ∧ Kp kb ko W1 W') ∨ (e = .returned (.bool false) ∧ Jx (pre ++ [x]) W'))
    (h1 : W.cell? ⟨b1, 0, none⟩ = some (.pointer (some ⟨p, 0, none⟩))) (hm : Mp B W p v l) (hk1 : kb < W.heap.size) (hk2 : ∀ k, fp kb ko W = some k → k < W.heap.size) (h0 : J [] W) :
    CallsIn Fence.wide n Try.prog 42 #[.func (.yield y) #[] #[], .pointer (some ⟨b1, 0, none⟩)] W fun e W' => (∃ v, e = .returned v) ∧
      ((∃ ys, ys = l ∧ J ys W') ∨ (∃ pre, pre <+: l ∧ Jx pre W')) := by
  have hf6 : Fence.wide.fn 37 := trivial
  have hf7 : Fence.wide.fn 43 := trivial
  have g1 : 1 ≤ n := by omega
  have HM := Lib.hid (made_any p true W hm.cell0)
  obtain ⟨a0, c0, rfl⟩ := hm.row.lens
  have c1 := hm.cell1
  have HC := Lib.hid (clone_any B _ l W hm.row hl)
  clear hm
  refine callsIn_of_wp Try.func42 rfl trivial ?_ rfl
  simp only [Try.ntmps42, List.size_toArray, List.length_cons, List.length_nil, Nat.reduceAdd, Nat.reduceSub, Array.replicate_succ, Array.replicate_zero, List.push_toArray, List.append_toArray, List.nil_append, List.cons_append]
  have HJ := Lib.hid hJ; clear hJ
  have HY := Lib.hid hY; clear hY
  have HK2 := Lib.hid hk2; clear hk2
  gi_wp2_with (first | (gi_at_call 37; refine (callsIn_wide.2 HM.out).mono ?_; rintro e w' ⟨rfl, rfl⟩) | (gi_at_call 43; refine (callsIn_wide.2 HC.out).mono ?_; rintro e w' ⟨vc, rfl, hrow, hb⟩; obtain ⟨ac, cc, rfl⟩ := hrow.lens))
  have hj0 : J [] w' := HJ.out [] W w' none h0 (grown_of_below hb) (fun r e => by cases e)
  have hf0 : ∀ q, (Value.slice ac l.length cc).ownBlock = some q → q ≠ kb ∧ fp kb ko w' ≠ some q := fun q hq => by
    have hq1 := (hrow.lt q hq).1
    refine ⟨by omega, ?_⟩
    rw [fp_of_block (hb.block kb hk1)]
    intro e
    have := HK2.out q e
    omega
  have hz := hb.size
  have HB := Lib.hid hb; clear hb
  clear h0 h1 c1 HM HC
  gi_loopw [4, 14] (fun _ i wr => ∃ k : Nat, k ≤ l.length ∧ i = .int .i64 k ∧ J (l.take k) wr ∧ Row W.heap.size 64 wr (.slice ac l.length cc) l ∧ (∀ q, (Value.slice ac l.length cc).ownBlock = some q → q ≠ kb ∧ fp kb ko wr ≠ some q) ∧ W.heap.size ≤ wr.heap.size) (fun _ i _ => l.length - (intOf i).toNat)
  case atStart => exact ⟨0, by omega, rfl, hj0, hrow, hf0, hz⟩
  case round =>
    obtain ⟨k, hk, rfl, hj, hr, hf, hs⟩ := hrel
    clear hj0 hrow hf0 hz
    by_cases hlt : k < l.length
    · obtain ⟨g, c, hv⟩ := hr.addr hlt
      cases hv
      have d1 := Row.key hr hlt
      have d2 := Row.val hr hlt
      have hltZ : (k : Int) < (l.length : Int) := by omega
      have hj' : J (l.take k) (wr.alloc (.cells #[.string l[k].1, .string l[k].2] 64)) := HJ.out _ wr _ none hj (World.grownBy_alloc wr _ none) (fun r e => by cases e)
      obtain ⟨fn, tmps, assign, body, hy, hR0⟩ := HY.out (l.take k) l[k] _ hj' (by simp; omega)
      have hR := hR0.mono (R' := fun e W' => ∃ t, e = .returned (.bool t) ∧ Went kb ko J Jx (l.take k ++ [l[k]]) (wr.alloc (.cells #[.string l[k].1, .string l[k].2] 64)) t W') (by
        rintro e W' (⟨rfl, a1, a2⟩ | ⟨rfl, a1⟩)
        · exact ⟨true, rfl, .inl ⟨rfl, a1, a2⟩⟩
        · exact ⟨false, rfl, .inr ⟨rfl, a1⟩⟩)
      have etk : l.take k ++ [l[k]] = l.take (k + 1) := by rw [List.take_append_getElem hlt]
      rw [etk] at hR
      have hgl : g < wr.heap.size := (hr.lt g rfl).2
      obtain ⟨cur, hcur⟩ := own_block hr g rfl
      have HR := Lib.hid hr; clear hr
      have HF := Lib.hid hf; clear hf
      have Hcur := Lib.hid hcur; clear hcur
      clear hR0 hj hj' etk
      gi_wp2_with (refine hR.mono ?_; rintro e W3 ⟨t, rfl, hw⟩)
      · rcases hw with ⟨rfl, hj3, hk3⟩ | ⟨rfl, hx3⟩
        · simp_all
        · refine bodyPost_ret (results_none rfl _ _ _) rfl ?_
          exact ⟨⟨_, rfl⟩, .inr ⟨l.take (k + 1), List.take_prefix _ _, hx3⟩⟩
      · rcases hw with ⟨rfl, hj3, hk3⟩ | ⟨rfl, hx3⟩
        · refine ⟨?_, by simp [intOf]; omega⟩
          have hfp : fp kb ko (wr.alloc (.cells #[.string l[k].1, .string l[k].2] 64)) = fp kb ko wr := fp_of_block (Below.heap_alloc _ _ _ (by omega))
          have hne := HF.out g rfl
          have hblk : W3.heap[g]? = wr.heap[g]? := by
            have ea := Below.heap_alloc wr (.cells #[.string l[k].1, .string l[k].2] 64) g hgl
            exact (hk3.block g cur _ (ea.trans Hcur.out) hne.1 (by rw [hfp]; exact hne.2)).trans ea
          have hz3 := hk3.size
          simp at hz3
          refine ⟨k + 1, by omega, by go_num, hj3, own_keep HR.out (fun q hq => by cases hq; exact hblk), fun q hq => ?_, by omega⟩
          cases hq
          refine ⟨hne.1, fun e => ?_⟩
          rcases hk3.row g e with e1 | e1
          · rw [hfp] at e1; exact hne.2 e1
          · simp at e1; omega
        · simp_all
    · obtain rfl : k = l.length := by omega
      gi_wp2
      go_end0
      exact ⟨⟨_, rfl⟩, .inl ⟨l, rfl, by simpa using hj⟩⟩
set_option maxHeartbeats 1000000 in
/-- All: the map's pointer is boxed; the function value holds the box. -/
theorem all_call (n : Nat) (P : Option Addr) (w : World) :
    CallsIn Fence.wide n Try.prog 36 #[.pointer P] w fun e w' => e = .returned (.func (.func 42) #[] #[.pointer (some ⟨w.heap.size, 0, none⟩)]) ∧ w.alloc (.cells #[.pointer P] 52) = w' := by
  refine callsIn_of_wp Try.func36 rfl trivial ?_ rfl
  simp only [Try.ntmps36, List.size_toArray, List.length_cons, List.length_nil, Nat.reduceAdd, Nat.reduceSub, Array.replicate_succ, Array.replicate_zero, List.push_toArray, List.append_toArray, List.nil_append, List.cons_append]
  gi_wp2
  go_ret
  exact ⟨rfl, rfl⟩
/-- The iterator's contract. -/
theorem all_stops (n : Nat) (hn : 3 ≤ n) (b1 B p kb ko : Nat) (v : Value) (l : List Pr) (hl : l.length ≤ 1000000) (w : World) (h1 : w.cell? ⟨b1, 0, none⟩ = some (.pointer (some ⟨p, 0, none⟩))) (hm : Mp B w p v l) (hk1 : kb < w.heap.size) (hk2 : ∀ k, fp kb ko w = some k → k < w.heap.size) :
    SeqStopsK Fence.wide n Try.prog 42 #[.pointer (some ⟨b1, 0, none⟩)] (fun x : Pr => #[Value.string x.1, Value.string x.2]) (Kp kb ko) (fun ys => ys = l) (fun pre => pre <+: l) l.length w := fun y J Jx W hW hJ _ hY h0 =>
  all1_in n y b1 B p kb ko hn v l hl J Jx W hJ hY ((hW.cell (p := ⟨b1, 0, none⟩) (World.block_lt_of_cell? _ _ h1)).trans h1) (hm.below hW) (Nat.lt_of_lt_of_le hk1 hW.size) (fun k hk => by
    rw [fp_of_block (hW.block kb hk1)] at hk
    exact Nat.lt_of_lt_of_le (hk2 k hk) hW.size) h0
set_option maxHeartbeats 1000000 in
theorem not1_in (n y b1 : Nat) (hn : 3 ≤ n) (P : Option Addr) (J Jx : List Pr → World → Prop) (W : World)
    (h1 : W.cell? ⟨b1, 0, none⟩ = some (.pointer P)) (hm : Not P W) (h0 : J [] W) :
    CallsIn Fence.wide n Try.prog 42 #[.func (.yield y) #[] #[], .pointer (some ⟨b1, 0, none⟩)] W fun e W' => (∃ v, e = .returned v) ∧
      ((∃ ys, ys = [] ∧ J ys W') ∨ (∃ pre, pre <+: [] ∧ Jx pre W')) := by
  have hf6 : Fence.wide.fn 37 := trivial
  have g1 : 1 ≤ n := by omega
  have HM := Lib.hid (hm W (Below.refl _ _)); clear hm
  refine callsIn_of_wp Try.func42 rfl trivial ?_ rfl
  simp only [Try.ntmps42, List.size_toArray, List.length_cons, List.length_nil, Nat.reduceAdd, Nat.reduceSub, Array.replicate_succ, Array.replicate_zero, List.push_toArray, List.append_toArray, List.nil_append, List.cons_append]
  gi_wp2_with (gi_at_call 37; refine (callsIn_wide.2 HM.out).mono ?_; rintro e w' ⟨rfl, rfl⟩)
  refine bodyPost_ret (results_none rfl _ _ _) rfl ?_
  exact ⟨⟨_, rfl⟩, .inl ⟨[], rfl, h0⟩⟩
theorem not_stops (n : Nat) (hn : 3 ≤ n) (b1 kb ko : Nat) (P : Option Addr) (w : World) (h1 : w.cell? ⟨b1, 0, none⟩ = some (.pointer P)) (hm : Not P w) :
    SeqStopsK Fence.wide n Try.prog 42 #[.pointer (some ⟨b1, 0, none⟩)] (fun x : Pr => #[Value.string x.1, Value.string x.2]) (Kp kb ko) (fun ys => ys = []) (fun pre => pre <+: []) 0 w := fun y J Jx W hW _ _ _ h0 =>
  not1_in n y b1 hn P J Jx W ((hW.cell (p := ⟨b1, 0, none⟩) (World.block_lt_of_cell? _ _ h1)).trans h1) (hm.below hW) h0
end Go.Proofs.Ytigopifioijjlaa
