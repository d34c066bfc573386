/-
  The walk of a shield's New. By an AI agent.
-/
import Derived.Test.YtjmgjgohllihdaaDoorShBase
set_option linter.unusedSimpArgs false
set_option linter.unusedVariables false
namespace Go.Proofs.YtjmgjgohllihdaaDoor
open Go.RowKit Go.Maps
open Ac (A)
/-- A new shield. -/
def Snew (s : Sh.S) (d : Nat) (c : Int) (b : Nat) (i : Int) (w : World) (e : Ending) (w' : World) : Prop := ∃ q, e = .returned (.pointer (some ⟨q, 0, none⟩)) ∧ w.heap.size ≤ q ∧ Sb w' q s d c b i ∧ Below w.heap.size w w'
set_option maxRecDepth 100000 in
set_option maxHeartbeats 4000000 in
theorem snew_no (d t n k s b i v : Int) (w : World) (h : Bd w) (hr : Dk.right d t n k = false ∨ i < 0) : Calls Tryd.prog 6 #[.agg #[.int .u64 d, .int .i64 t, .int .i64 n, .int .i64 k, .int .u64 s], .int .u64 b, .int .i64 i, .int .u64 v] w (Snew ⟨0, 0⟩ 0 0 0 0 w) := by
  have HB := Lib.hid (sboxed_below w d t n k s)
  have KR := dright_any d t n k s (sboxed w d t n k s) (h.below HB.out)
  clear h
  cases hc : Dk.right d t n k with
  | false =>
    rw [hc] at KR
    have KR := Lib.hid KR
    clear hr hc
    go_enter Tryd.func6, Tryd.ntmps6
    go_wp2_with fail
    with_reducible refine KR.out.mono ?_
    rintro e w1 ⟨rfl, hb⟩
    have HB1 := Lib.hid (HB.out.trans (hb.mono HB.out.size))
    clear hb KR
    go_wp2
    go_ret
    exact ⟨w1.heap.size, rfl, HB1.out.size, heap_alloc_new w1 _, HB1.out.trans (((Below.refl _ w1).alloc (Nat.le_refl _) _).mono HB1.out.size)⟩
  | true =>
    rw [hc] at KR
    have KR := Lib.hid KR
    have hi : i < 0 := by rcases hr with e | e; rw [hc] at e; cases e; exact e
    clear hr hc
    go_enter Tryd.func6, Tryd.ntmps6
    go_wp2_with fail
    with_reducible refine KR.out.mono ?_
    rintro e w1 ⟨rfl, hb⟩
    have HB1 := Lib.hid (HB.out.trans (hb.mono HB.out.size))
    clear hb KR
    go_wp2
    go_ret
    exact ⟨w1.heap.size, rfl, HB1.out.size, heap_alloc_new w1 _, HB1.out.trans (((Below.refl _ w1).alloc (Nat.le_refl _) _).mono HB1.out.size)⟩
set_option maxRecDepth 100000 in
set_option maxHeartbeats 4000000 in
theorem snew_yes (d : Nat) (t n k s : Int) (b : Nat) (i : Int) (v : Nat) (w : World) (h : Bd w) (hr : Dk.right d t n k = true) (hi : 0 ≤ i) (hv : v < 18446744073709551616) : Calls Tryd.prog 6 #[.agg #[.int .u64 (d : Int), .int .i64 t, .int .i64 n, .int .i64 k, .int .u64 s], .int .u64 (b : Int), .int .i64 i, .int .u64 (v : Int)] w (Snew (Sh.new v) d (Dk.box t) b i w) := by
  have HB := Lib.hid (sboxed_below w d t n k s)
  have KR := dright_any d t n k s (sboxed w d t n k s) (h.below HB.out)
  rw [hr] at KR
  have KR := Lib.hid KR
  have HBD := Lib.hid (h.below HB.out)
  clear h hr
  have KT := Lib.hid (fun W (hb : Bd W) => dbox_any t W hb)
  generalize Dk.box t = c at *
  have HC := Lib.hid (fun W hb => (sboxed_cells (w := w) (w' := W) (d := d) (t := t) (n := n) (k := k) (s := s) hb))
  have HF := Lib.hid (fun W => freshn v W hv)
  have hi1 : ¬ i < 0 := by omega
  clear hi
  have HT : Hid (∀ (W : World) (q : Nat) (x : Bool), Sb W q ⟨0, 0⟩ d c b i → Calls Tryd.prog 23 #[.pointer (some ⟨q, 0, none⟩), .int .u64 (v : Int), .bool x] W fun e w' => e = .returned (.tuple #[]) ∧ Sb w' q (Sh.told v x) d c b i ∧ Chg q W w') := Lib.hid (fun W q x hs => told_any hs v x)
  unfold Sh.new
  generalize Sh.fr v = x at *
  clear hv
  go_enter Tryd.func6, Tryd.ntmps6
  go_wp2_with fail
  with_reducible refine KR.out.mono ?_
  rintro e w1 ⟨rfl, hb⟩
  have HB1 := Lib.hid (HB.out.trans (hb.mono HB.out.size))
  obtain ⟨d0, d1, -, -, -⟩ := HC.out w1 hb
  have K1 := Lib.hid (KT.out w1.drew ((HBD.out.below hb).below (Below.refl _ w1).drew))
  clear hb KR HC KT HBD
  obtain ⟨z, hz⟩ : ∃ z, z = w.heap.size := ⟨_, rfl⟩
  have HZ := Lib.hid hz
  rw [← hz] at d0 d1 ⊢
  clear hz
  go_wp2_with fail
  go_region_with (go_at_call 18; refine K1.out.mono ?_; rintro e w2 ⟨rfl, rfl⟩)
  all_goals
    have hg : Sb (w1.drew.alloc (.cells #[.int .i64 0, .int .u64 (d : Int), .int .i64 c, .int .u64 0, .int .u64 (b : Int), .int .i64 i] 61)) w1.heap.size ⟨0, 0⟩ d c b i := heap_alloc_new w1.drew _
    have hb2 : Below w.heap.size w (w1.drew.alloc (.cells #[.int .i64 0, .int .u64 (d : Int), .int .i64 c, .int .u64 0, .int .u64 (b : Int), .int .i64 i] 61)) := HB1.out.trans (((Below.refl _ w1).drew.alloc (Nat.le_refl _) _).mono HB1.out.size)
    have hq : w.heap.size ≤ w1.heap.size := HB1.out.size
    have HG2 := Lib.hid hg
    have HB2 := Lib.hid hb2
    have HQ := Lib.hid hq
    clear hg hb2 hq K1 d0 d1
    go_wp2_with fail
    with_reducible refine (HF.out _).mono ?_
    rintro e w3 ⟨rfl, hb3⟩
    have HG3 := Lib.hid (HG2.out.below hb3)
    have HB3 := Lib.hid (HB2.out.trans (hb3.mono HB2.out.size))
    have K4 := Lib.hid (HT.out _ _ x HG3.out)
    clear hb3 HG2 HB2
    go_wp2_with fail
    with_reducible refine K4.out.mono ?_
    rintro e w4 ⟨rfl, hg4, ht4⟩
    have HG4 := Lib.hid hg4
    have HB4 := Lib.hid (HB3.out.trans (ht4.below (fun j hj => by rw [hj]; exact HQ.out) HB3.out.size))
    clear hg4 ht4 K4
    go_wp2
    go_ret
    exact ⟨_, rfl, HQ.out, HG4.out, by have := HB4.out; rwa [HZ.out] at *⟩
end Go.Proofs.YtjmgjgohllihdaaDoor
