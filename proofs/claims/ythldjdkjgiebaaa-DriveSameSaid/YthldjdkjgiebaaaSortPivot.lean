/-
  The walks of order2Ordered, medianOrdered, medianAdjacentOrdered and choosePivotOrdered at words: some place of the range is chosen, and nothing of the row turns. By an AI agent.
-/
import Derived.Test.YthldjdkjgiebaaaSortPIns
set_option linter.unusedSimpArgs false
namespace Go.Proofs.Ythldjdkjgiebaaa.S64
open Go.RowKit Go.Sort
variable {hd tl : List Value} {blk off : Nat}
/-- A counter in a box of its own; nothing else turns. -/
structure Bk (bx s : Nat) (w w' : World) : Prop where
  os : w'.os = w.os
  tape : w'.tape = w.tape
  output : w'.output = w.output
  size : w.heap.size ≤ w'.heap.size
  block : ∀ k, k < w.heap.size → k ≠ bx → w'.heap[k]? = w.heap[k]?
  own : w'.heap[bx]? = some (.cells #[.int .i64 (s : Int)] 3 (0, 0))
theorem Bk.trans {bx s s' : Nat} {w w' w'' : World} (h : Bk bx s w w') (h' : Bk bx s' w' w'') : Bk bx s' w w'' :=
  ⟨h'.os.trans h.os, h'.tape.trans h.tape, h'.output.trans h.output, Nat.le_trans h.size h'.size, fun k hk hb => (h'.block k (Nat.lt_of_lt_of_le hk h.size) hb).trans (h.block k hk hb), h'.own⟩
theorem Bk.refl {bx s : Nat} {w : World} (h : w.heap[bx]? = some (.cells #[.int .i64 (s : Int)] 3 (0, 0))) : Bk bx s w w := ⟨rfl, rfl, rfl, Nat.le_refl _, fun _ _ _ => rfl, h⟩
theorem Bk.drewN {bx s : Nat} {w w' : World} (h : Bk bx s w w') (n : Nat) : Bk bx s w (w'.drewN n) := ⟨h.os, h.tape, h.output, h.size, h.block, h.own⟩
theorem Bk.cell {bx s : Nat} {w w' : World} (h : Bk bx s w w') : w'.cell? ⟨bx, 0, none⟩ = some (.int .i64 (s : Int)) := by simp [World.cell?, h.own]
theorem Bk.frozen {bx s : Nat} {w w' : World} (h : Bk bx s w w') : w'.frozen? ⟨bx, 0, none⟩ = false := by simp [World.frozen?, h.own]
theorem Bk.set {bx s : Nat} {w w' : World} (h : Bk bx s w w') (t : Nat) : Bk bx t w (w'.setCell ⟨bx, 0, none⟩ (.int .i64 (t : Int))) :=
  ⟨h.os, h.tape, h.output, by simpa [World.setCell] using h.size, fun k hk hb => (Below.heap_setCell _ _ _ _ hb).trans (h.block k hk hb), by rw [heap_setc h.own]; rfl⟩
theorem Bk.row {bx s : Nat} {w w' : World} {d : Array Int} (h : Bk bx s w w') (hr : Rw hd tl blk off w d) (hb : blk ≠ bx) : Rw hd tl blk off w' d := ⟨hr.len, (h.block blk hr.lt hb).trans hr.own⟩
/-- Two of two places, in some order. -/
def Two (a b bx s : Nat) (w : World) (e : Ending) (w' : World) : Prop := ∃ x y t : Nat, e = .returned (.tuple #[.int .i64 (x : Int), .int .i64 (y : Int)]) ∧ ((x = a ∧ y = b) ∨ (x = b ∧ y = a)) ∧ t ≤ s + 1 ∧ Bk bx t w w'
/-- One of three places. -/
def One3 (a b c bx s : Nat) (w : World) (e : Ending) (w' : World) : Prop := ∃ x t : Nat, e = .returned (.int .i64 (x : Int)) ∧ (x = a ∨ x = b ∨ x = c) ∧ t ≤ s + 3 ∧ Bk bx t w w'
set_option maxRecDepth 100000 in
set_option maxHeartbeats 2000000 in
theorem order2_any (cap a b bx s N : Nat) (d : Array Int) (w : World) (hR : Rw hd tl blk off w d) (hN : d.size = N) (hB : Bk bx s w w) (ha : a < N) (hb : b < N) (hs : s ≤ 1000) (_hsz : N ≤ 1000000) :
    Calls Try.prog 76 #[.slice (some ⟨blk, off, none⟩) N cap, .int .i64 (a : Int), .int .i64 (b : Int), .pointer (some ⟨bx, 0, none⟩)] w (Two a b bx s w) := by
  obtain ⟨G, hG⟩ : ∃ G : Nat → Int, ∀ t, G t = d[t]! := ⟨fun t => d[t]!, fun _ => rfl⟩
  have hcw : ∀ t, t < N → w.cell? ⟨blk, off + t, none⟩ = some (.int .u64 (G t)) := fun t ht => by rw [hG]; exact hR.cell (by rw [hN]; exact ht)
  have hc := hB.cell
  have hf := hB.frozen
  have HB := Lib.hid hB; clear hB
  clear hR hN hG
  have HLe := Lib.hid fun w n => less_q w n (G b) (G a)
  cases hl : ltInt (G b) (G a)
  · rw [hl] at HLe
    clear hl
    go_enter Try.func76, Try.ntmps76
    go_wp2
    go_quiet ((go_at_call 65; with_reducible exact HLe.out _ _))
    go_wp2
    go_ret2
    exact ⟨a, b, s, rfl, .inl ⟨rfl, rfl⟩, by omega, HB.out.drewN _⟩
  · rw [hl] at HLe
    clear hl
    go_enter Try.func76, Try.ntmps76
    go_wp2
    go_quiet ((go_at_call 65; with_reducible exact HLe.out _ _))
    go_wp2
    go_ret2
    exact ⟨b, a, s + 1, rfl, .inr ⟨rfl, rfl⟩, by omega, by have := (HB.out.drewN nq).set (s + 1); rw [show ((s + 1 : Nat) : Int) = (s : Int) + 1 by omega] at this; exact this⟩
set_option maxRecDepth 100000 in
set_option maxHeartbeats 2000000 in
theorem median_any (cap a b c bx s N : Nat) (d : Array Int) (w : World) (hR : Rw hd tl blk off w d) (hN : d.size = N) (hB : Bk bx s w w) (hne : blk ≠ bx) (ha : a < N) (hb : b < N) (hc : c < N) (hs : s ≤ 900) (hsz : N ≤ 1000000) :
    Calls Try.prog 74 #[.slice (some ⟨blk, off, none⟩) N cap, .int .i64 (a : Int), .int .i64 (b : Int), .int .i64 (c : Int), .pointer (some ⟨bx, 0, none⟩)] w (One3 a b c bx s w) := by
  have KO : Hid (∀ (a b s : Nat) (w' : World), Bk bx s w w' → a < N → b < N → s ≤ 1000 → Calls Try.prog 76 #[.slice (some ⟨blk, off, none⟩) N cap, .int .i64 (a : Int), .int .i64 (b : Int), .pointer (some ⟨bx, 0, none⟩)] w' (Two a b bx s w')) :=
    Lib.hid fun a b s w' hb h1 h2 h3 => order2_any cap a b bx s N d w' (hb.row hR hne) hN (Bk.refl hb.own) h1 h2 h3 hsz
  have HB := Lib.hid hB; clear hB hR
  go_enter Try.func74, Try.ntmps74
  go_wp2_with fail
  with_reducible refine (KO.out a b s w HB.out ha hb (by omega)).mono ?_
  rintro e w1 ⟨x1, y1, t1, rfl, h1, ht1, hb1⟩
  have HB1 := Lib.hid (HB.out.trans hb1); clear hb1
  have H1 := Lib.hid h1
  have hx1 : x1 < N := by omega
  have hy1 : y1 < N := by omega
  clear h1
  go_wp2_with fail
  with_reducible refine (KO.out y1 c t1 w1 HB1.out hy1 hc (by omega)).mono ?_
  rintro e w2 ⟨x2, y2, t2, rfl, h2, ht2, hb2⟩
  have HB2 := Lib.hid (HB1.out.trans hb2); clear hb2
  have H2 := Lib.hid h2
  have hx2 : x2 < N := by omega
  clear h2
  go_wp2_with fail
  with_reducible refine (KO.out x1 x2 t2 w2 HB2.out hx1 hx2 (by omega)).mono ?_
  rintro e w3 ⟨x3, y3, t3, rfl, h3, ht3, hb3⟩
  have HB3 := Lib.hid (HB2.out.trans hb3); clear hb3
  have H3 := Lib.hid h3; clear h3
  go_wp2_with fail
  go_ret
  exact ⟨y3, t3, rfl, by have := H1.out; have := H2.out; have := H3.out; omega, by omega, HB3.out⟩
set_option maxRecDepth 100000 in
set_option maxHeartbeats 2000000 in
theorem adj_any (cap a bx s N : Nat) (d : Array Int) (w : World) (hR : Rw hd tl blk off w d) (hN : d.size = N) (hB : Bk bx s w w) (hne : blk ≠ bx) (ha : 1 ≤ a) (hb : a + 1 < N) (hs : s ≤ 900) (hsz : N ≤ 1000000) :
    Calls Try.prog 73 #[.slice (some ⟨blk, off, none⟩) N cap, .int .i64 (a : Int), .pointer (some ⟨bx, 0, none⟩)] w (One3 (a - 1) a (a + 1) bx s w) := by
  have K := Lib.hid (median_any cap (a - 1) a (a + 1) bx s N d w hR hN hB hne (by omega) (by omega) (by omega) hs hsz)
  rw [show (((a - 1 : Nat) : Int)) = (a : Int) - 1 by omega, show (((a + 1 : Nat) : Int)) = (a : Int) + 1 by omega] at K
  clear hR hB
  go_enter Try.func73, Try.ntmps73
  go_wp2_with fail
  with_reducible refine K.out.mono ?_
  rintro e w1 ⟨x1, t1, rfl, h1, ht1, hb1⟩
  have H1 := Lib.hid h1; clear h1
  have HB1 := Lib.hid hb1; clear hb1
  go_wp2_with fail
  go_ret
  exact ⟨x1, t1, rfl, H1.out, ht1, HB1.out⟩
end Go.Proofs.Ythldjdkjgiebaaa.S64
