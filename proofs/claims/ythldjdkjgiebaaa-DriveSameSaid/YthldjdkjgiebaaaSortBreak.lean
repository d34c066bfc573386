/-
  The walks of (*xorshift).Next, nextPowerOfTwo and breakPatternsOrdered at words: the range is permuted in some way. By an AI agent.
-/
import Derived.Test.YthldjdkjgiebaaaSortChoose
import Derived.Test.YthldjdkjgiebaaaShelf
import Derived.OpenShut
import Derived.Laws.Bits64b
set_option linter.unusedSimpArgs false
namespace Go.Proofs.Ythldjdkjgiebaaa.S64
open Go.RowKit Go.Sort
variable {hd tl : List Value} {blk off : Nat}
/-- A word in a box of its own; nothing else turns. -/
structure Bw (bx : Nat) (r : Int) (w w' : World) : Prop where
  os : w'.os = w.os
  tape : w'.tape = w.tape
  output : w'.output = w.output
  size : w.heap.size ≤ w'.heap.size
  block : ∀ k, k < w.heap.size → k ≠ bx → w'.heap[k]? = w.heap[k]?
  own : w'.heap[bx]? = some (.cells #[.int .u64 r] 122 (0, 0))
theorem Bw.refl {bx : Nat} {r : Int} {w : World} (h : w.heap[bx]? = some (.cells #[.int .u64 r] 122 (0, 0))) : Bw bx r w w := ⟨rfl, rfl, rfl, Nat.le_refl _, fun _ _ _ => rfl, h⟩
theorem Bw.drew {bx : Nat} {r : Int} {w w' : World} (h : Bw bx r w w') : Bw bx r w w'.drew := ⟨h.os, h.tape, h.output, h.size, h.block, h.own⟩
theorem Bw.cell {bx : Nat} {r : Int} {w w' : World} (h : Bw bx r w w') : w'.cell? ⟨bx, 0, none⟩ = some (.int .u64 r) := by simp [World.cell?, h.own]
theorem Bw.frozen {bx : Nat} {r : Int} {w w' : World} (h : Bw bx r w w') : w'.frozen? ⟨bx, 0, none⟩ = false := by simp [World.frozen?, h.own]
theorem Bw.set {bx : Nat} {r : Int} {w w' : World} (h : Bw bx r w w') (t : Int) : Bw bx t w (w'.setCell ⟨bx, 0, none⟩ (.int .u64 t)) :=
  ⟨h.os, h.tape, h.output, by simpa [World.setCell] using h.size, fun k hk hb => (Below.heap_setCell _ _ _ _ hb).trans (h.block k hk hb), by rw [heap_setc h.own]; rfl⟩
/-- Some word, which is in the box then. -/
def Nexts (bx : Nat) (w : World) (e : Ending) (w' : World) : Prop := ∃ t : Int, e = .returned (.int .u64 t) ∧ (Lit.int .u64 t).wf = true ∧ Bw bx t w w'
set_option maxRecDepth 100000 in
set_option maxHeartbeats 2000000 in
theorem next_any (bx : Nat) (r : Int) (w : World) (hB : Bw bx r w w) :
    Calls Try.prog 72 #[.pointer (some ⟨bx, 0, none⟩)] w (Nexts bx w) := by
  have hc := hB.cell
  have hf := hB.frozen
  have HB := Lib.hid hB; clear hB
  go_enter Try.func72, Try.ntmps72
  go_upto_region 1 with (fail)
  go_region
  obtain ⟨r1, hr1⟩ : ∃ r1, r1 = bits BinOp.xor IntKind.u64 r (IntKind.u64.wrap (r * 8192)) := ⟨_, rfl⟩
  rw [← hr1]
  clear hr1
  have hb1 := (HB.out.set r1).drew
  generalize (w.setCell ⟨bx, 0, none⟩ (.int .u64 r1)).drew = w1 at hb1 ⊢
  have hc1 := hb1.cell
  have hf1 := hb1.frozen
  have HB1 := Lib.hid hb1; clear hb1 hc hf
  go_upto_region 2 with (fail)
  go_region
  obtain ⟨r2, hr2⟩ : ∃ r2, r2 = bits BinOp.xor IntKind.u64 r1 (r1 / 128) := ⟨_, rfl⟩
  rw [← hr2]
  clear hr2
  have hb2 := (HB1.out.set r2).drew
  generalize (w1.setCell ⟨bx, 0, none⟩ (.int .u64 r2)).drew = w2 at hb2 ⊢
  have hc2 := hb2.cell
  have hf2 := hb2.frozen
  have HB2 := Lib.hid hb2; clear hb2 hc1 hf1
  go_upto_region 3 with (fail)
  go_region
  obtain ⟨r3, hr3⟩ : ∃ r3, r3 = bits BinOp.xor IntKind.u64 r2 (IntKind.u64.wrap (r2 * 131072)) := ⟨_, rfl⟩
  have hw3 : (Lit.int .u64 r3).wf = true := hr3 ▸ wf_bits _ _ _ _
  rw [← hr3]
  clear hr3
  have hb3 := (HB2.out.set r3).drew
  generalize (w2.setCell ⟨bx, 0, none⟩ (.int .u64 r3)).drew = w3 at hb3 ⊢
  have hc3 := hb3.cell
  have HB3 := Lib.hid hb3; clear hb3 hc2 hf2
  have HW3 := Lib.hid hw3; clear hw3
  go_wp2
  go_ret
  exact ⟨r3, rfl, HW3.out, HB3.out⟩
theorem aux_le : ∀ (f x : Nat), 0 < x → 2 ^ Lib.bitLenAux f x ≤ 2 * x
  | 0, x, h => by simp [Lib.bitLenAux]; omega
  | f + 1, x, h => by
    rw [Lib.bitLenAux, if_neg (by omega), Nat.pow_add]
    by_cases hx : x / 2 = 0
    · rw [hx]
      have : Lib.bitLenAux f 0 = 0 := by cases f <;> simp [Lib.bitLenAux]
      rw [this]
      omega
    · have := aux_le f (x / 2) (by omega)
      omega
theorem bit_le (n : Nat) (h : 0 < n) : 2 ^ Lib.bitLen n ≤ 2 * n := aux_le 64 n h
theorem bit20 (n : Nat) (h : n ≤ 1000000) : 2 ^ Lib.bitLen n ≤ 2000001 := by
  by_cases h0 : n = 0
  · subst h0; decide
  · have := bit_le n (by omega)
    omega
set_option maxRecDepth 100000 in
set_option maxHeartbeats 2000000 in
theorem pow_any (n : Nat) (h : n ≤ 1000000) (w : World) :
    Calls Try.prog 71 #[.int .i64 (n : Int)] w (Same (.int .u64 ((2 ^ Lib.bitLen n : Nat) : Int)) w) := by
  have K := Lib.hid (Try.bits_Len (n : Int) w (by omega) (by omega))
  rw [Int.toNat_natCast] at K
  obtain ⟨k, hk⟩ : ∃ k, k = Lib.bitLen n := ⟨_, rfl⟩
  rw [← hk] at K
  have Hk := Lib.hid hk; clear hk
  go_enter Try.func71, Try.ntmps71
  go_wp2_with fail
  with_reducible refine K.out.mono ?_
  rintro e w1 ⟨rfl, rfl⟩
  go_wp2_with fail
  go_ret
  have hk20 := bit20 n h
  rw [← Hk.out] at hk20
  have hk64 : k ≤ 64 := by
    apply Nat.le_of_not_lt
    intro hlt
    have := Nat.pow_le_pow_right (show 0 < 2 by omega) (show 21 ≤ k by omega)
    omega
  have e : IntKind.u64.wrap ((2 : Int) ^ min k 64) = ((2 ^ k : Nat) : Int) := by
    rw [Nat.min_eq_left hk64, IntWalk.u64_in]
    · rw [Int.natCast_pow]; rfl
    · rw [show (2 : Int) ^ k = ((2 ^ k : Nat) : Int) by rw [Int.natCast_pow]; rfl]
      generalize 2 ^ k = m at hk20
      omega
  refine ⟨?_, rfl⟩
  show Ending.returned (Value.int .u64 (IntKind.u64.wrap ((2 : Int) ^ min k 64))) = _
  rw [e, Hk.out]
theorem Pt.next {d : Array Int} {bx : Nat} {t : Int} {w w' w'' : World} (h : Pt hd tl blk off d w w') (hb : Bw bx t w' w'') (hx : w.heap.size ≤ bx) (hl : blk < w.heap.size) : Pt hd tl blk off d w w'' :=
  ⟨hb.os.trans h.os, hb.tape.trans h.tape, hb.output.trans h.output, Nat.le_trans h.size hb.size, fun k hk hn => (hb.block k (Nat.lt_of_lt_of_le hk h.size) (by omega)).trans (h.block k hk hn), ⟨h.row.len, (hb.block blk h.row.lt (by omega)).trans h.row.own⟩⟩
/-- The range is permuted. -/
def Perms (hd tl : List Value) (blk off a b : Nat) (d : Array Int) (w : World) (e : Ending) (w' : World) : Prop := e = .returned (.tuple #[]) ∧ ∃ d', PermIn a b d d' ∧ Pt hd tl blk off d' w w'
/-- The last bits of a word. -/
theorem and_low (t : Int) (M : Nat) (ht : (Lit.int .u64 t).wf = true) (h1 : 1 ≤ M) (h2 : M ≤ 2000001) : ∃ o : Nat, bits .and .u64 t ((M : Int) - 1) = (o : Int) ∧ o < M := by
  have hb := bounds_u64 ht
  obtain ⟨n, rfl⟩ := Int.eq_ofNat_of_zero_le hb.1
  refine ⟨n &&& (M - 1), ?_, ?_⟩
  · rw [show (M : Int) - 1 = ((M - 1 : Nat) : Int) by omega]
    exact bits_and_u64_nat n (M - 1) (by omega) (by omega)
  · have := Nat.and_le_right (n := n) (m := M - 1)
    omega
set_option maxRecDepth 100000 in
set_option maxHeartbeats 4000000 in
theorem break_any (cap a b N : Nat) (d : Array Int) (w : World) (hR : Rw hd tl blk off w d) (hN : d.size = N) (hl : a + 12 < b) (hb : b ≤ N) (hsz : N ≤ 1000000) :
    Calls Try.prog 61 #[.slice (some ⟨blk, off, none⟩) N cap, .int .i64 (a : Int), .int .i64 (b : Int)] w (Perms hd tl blk off a b d w) := by
  obtain ⟨l, hl'⟩ : ∃ l, l = b - a := ⟨_, rfl⟩
  obtain ⟨q, hq⟩ : ∃ q, q = l / 4 := ⟨_, rfl⟩
  obtain ⟨c, hc⟩ : ∃ c, c + 1 = a + q * 2 := ⟨a + q * 2 - 1, by omega⟩
  have KP := Lib.hid (pow_any l (by omega))
  have hM1 := bit_le l (by omega)
  have hM2 := bit20 l (by omega)
  have hM0 : 0 < 2 ^ Lib.bitLen l := Nat.pow_pos (by omega)
  obtain ⟨M, hM⟩ : ∃ M, M = 2 ^ Lib.bitLen l := ⟨_, rfl⟩
  rw [← hM] at KP hM1 hM2 hM0
  clear hM
  have hblk := hR.lt
  obtain ⟨W0, hW0⟩ : ∃ W0, w.alloc (.cells #[.int .u64 (l : Int)] 122) = W0 := ⟨_, rfl⟩
  have hb0 : Below w.heap.size w W0 := hW0 ▸ (Below.refl _ w).alloc (Nat.le_refl _) _
  have ho0 : W0.heap[w.heap.size]? = some (.cells #[.int .u64 (l : Int)] 122 (0, 0)) := hW0 ▸ heap_alloc_new w _
  have hP0 : Pt hd tl blk off d w W0 := hR.refl.below hb0
  have HP0 := Lib.hid hP0; clear hP0 hR hb0
  have HO0 := Lib.hid ho0; clear ho0
  have HW0 := Lib.hid hW0; clear hW0
  have HN := Lib.hid hN; clear hN
  have hl12 : 12 < l := by omega
  have hca : a ≤ c := by omega
  have hcb : c + 2 < b := by omega
  have e0 : (b : Int) - (a : Int) = (l : Int) := by omega
  have e1 : (l : Int) / 4 = (q : Int) := by omega
  have e2 : (a : Int) + (q : Int) * 2 = (c : Int) + 1 := by omega
  have h8 : (8 : Int) ≤ (l : Int) := by omega
  have hl6 : l ≤ 1000000 := by omega
  have hq6 : q ≤ 1000000 := by omega
  have Hl := Lib.hid hl'
  clear hl' hq hc
  have KX := Lib.hid next_any
  go_enter Try.func61, Try.ntmps61
  go_wp2_with fail
  rw [HW0.out]
  with_reducible refine (KP.out W0).mono ?_
  rintro e w1 ⟨rfl, rfl⟩
  go_wp2_with fail
  go_loopg [9] 3 (fun k vi wr => ∃ (i : Nat) (r : Int) (dk : Array Int), vi = .int .i64 (i : Int) ∧ k = c + 3 - i ∧ (c ≤ i ∧ i ≤ c + 3) ∧ dk.size = N ∧ PermIn a b d dk ∧ Pt hd tl blk off dk w wr ∧ wr.heap[w.heap.size]? = some (.cells #[.int .u64 r] 122 (0, 0)))
  case atStart => exact ⟨c, l, d, by go_num, by omega, ⟨by omega, by omega⟩, HN.out, permIn_refl _ _ _, HP0.out, HO0.out⟩
  case round =>
    obtain ⟨i, r, dk, rfl, rfl, ⟨hi1, hi2⟩, hsk, hperm, hpk, hown⟩ := hrel
    have HSk := Lib.hid hsk; clear hsk
    have HPerm := Lib.hid hperm; clear hperm
    have HPk := Lib.hid hpk; clear hpk
    have HOwn := Lib.hid hown; clear hown
    by_cases hic : i ≤ c + 2
    · have hicZ : (i : Int) ≤ (c : Int) + 1 + 1 := by omega
      have hicZ2 : (i : Int) ≤ (c : Int) + 2 := by omega
      go_wp2_with fail
      with_reducible refine (KX.out _ r wr (Bw.refl HOwn.out)).mono ?_
      rintro e w2 ⟨t, rfl, hwf, hbw⟩
      have HP2 := Lib.hid (HPk.out.next hbw (Nat.le_refl _) hblk)
      have HOwn2 := Lib.hid hbw.own
      clear hbw
      obtain ⟨o, eo, ho⟩ := and_low t M hwf hM0 hM2
      clear hwf
      have eM : IntKind.u64.wrap ((M : Int) - 1) = (M : Int) - 1 := IntWalk.u64_in _ (by omega)
      obtain ⟨G, hG⟩ : ∃ G : Nat → Int, ∀ t, G t = dk[t]! := ⟨fun t => dk[t]!, fun _ => rfl⟩
      have HG := Lib.hid hG; clear hG
      have hiN : i < N := by omega
      have hxb2 : w.heap.size ≠ blk := by omega
      by_cases hol : l ≤ o
      · have holZ : (l : Int) ≤ (o : Int) := by omega
        obtain ⟨o2, ho2⟩ : ∃ o2, o2 = o - l := ⟨_, rfl⟩
        have eo2 : (o : Int) - (l : Int) = (o2 : Int) := by omega
        obtain ⟨x, hx⟩ : ∃ x, x = a + o2 := ⟨_, rfl⟩
        have ex : (a : Int) + (o2 : Int) = (x : Int) := by omega
        have exw : IntKind.i64.wrap ((a : Int) + (o2 : Int)) = (x : Int) := by rw [ex]; exact IntWalk.i64_in _ (by have := Hl.out; omega)
        have hxa : a ≤ x := by omega
        have hxb : x < b := by have := Hl.out; omega
        clear ho2 hx
        have hcw : ∀ t, t < N → w2.cell? ⟨blk, off + t, none⟩ = some (.int .u64 (G t)) := fun t ht => by rw [HG.out]; exact HP2.out.row.cell (by rw [HSk.out]; exact ht)
        have hfw : ∀ t, t < N → w2.frozen? ⟨blk, off + t, none⟩ = false := fun t _ => HP2.out.row.frozen t
        have hcs := HP2.out.cell_swap (i := i) (j := x) (by rw [HSk.out]; omega) (by rw [HSk.out]; omega)
        rw [← HG.out] at hcs
        have hjN : x < N := by omega
        go_upto_region 10 with (fail)
        go_region
        have hnew := (HP2.out.swap (i := i) (j := x) (by rw [HSk.out]; omega) (by rw [HSk.out]; omega)).drew
        rw [← HG.out, ← HG.out] at hnew
        clear hcs hcw hfw
        have hown3 : (((w2.setCell ⟨blk, off + i, none⟩ (.int .u64 (G x))).setCell ⟨blk, off + x, none⟩ (.int .u64 (G i))).drew).heap[w.heap.size]? = some (.cells #[.int .u64 t] 122 (0, 0)) := ((Below.heap_setCell _ _ _ _ hxb2).trans (Below.heap_setCell _ _ _ _ hxb2)).trans HOwn2.out
        generalize ((w2.setCell ⟨blk, off + i, none⟩ (.int .u64 (G x))).setCell ⟨blk, off + x, none⟩ (.int .u64 (G i))).drew = W3 at hnew hown3 ⊢
        have HP3 := Lib.hid hnew; clear hnew
        have HOwn3 := Lib.hid hown3; clear hown3
        go_wp2
        go_roundg (c + 3 - (i + 1))
        case measure => clear ex exw eM eo; omega
        case rel => exact ⟨i + 1, t, swp dk i x, by go_num, rfl, ⟨by clear ex exw eM eo; omega, by clear ex exw eM eo; omega⟩, by rw [size_swp]; exact HSk.out, permIn_trans _ _ _ _ _ HPerm.out (swp_permIn dk a b i x (by clear ex exw eM eo; omega) (by clear ex exw eM eo; omega) hxa hxb (by rw [HSk.out]; exact hb)), HP3.out, HOwn3.out⟩
      · have holB : decide ((l : Int) ≤ (o : Int)) = false := by simp; omega
        obtain ⟨x, hx⟩ : ∃ x, x = a + o := ⟨_, rfl⟩
        have ex : (a : Int) + (o : Int) = (x : Int) := by omega
        have exw : IntKind.i64.wrap ((a : Int) + (o : Int)) = (x : Int) := by rw [ex]; exact IntWalk.i64_in _ (by have := Hl.out; omega)
        have hxa : a ≤ x := by omega
        have hxb : x < b := by have := Hl.out; omega
        clear hx
        have hcw : ∀ t, t < N → w2.cell? ⟨blk, off + t, none⟩ = some (.int .u64 (G t)) := fun t ht => by rw [HG.out]; exact HP2.out.row.cell (by rw [HSk.out]; exact ht)
        have hfw : ∀ t, t < N → w2.frozen? ⟨blk, off + t, none⟩ = false := fun t _ => HP2.out.row.frozen t
        have hcs := HP2.out.cell_swap (i := i) (j := x) (by rw [HSk.out]; omega) (by rw [HSk.out]; omega)
        rw [← HG.out] at hcs
        have hjN : x < N := by omega
        go_upto_region 10 with (fail)
        go_region
        have hnew := (HP2.out.swap (i := i) (j := x) (by rw [HSk.out]; omega) (by rw [HSk.out]; omega)).drew
        rw [← HG.out, ← HG.out] at hnew
        clear hcs hcw hfw
        have hown3 : (((w2.setCell ⟨blk, off + i, none⟩ (.int .u64 (G x))).setCell ⟨blk, off + x, none⟩ (.int .u64 (G i))).drew).heap[w.heap.size]? = some (.cells #[.int .u64 t] 122 (0, 0)) := ((Below.heap_setCell _ _ _ _ hxb2).trans (Below.heap_setCell _ _ _ _ hxb2)).trans HOwn2.out
        generalize ((w2.setCell ⟨blk, off + i, none⟩ (.int .u64 (G x))).setCell ⟨blk, off + x, none⟩ (.int .u64 (G i))).drew = W3 at hnew hown3 ⊢
        have HP3 := Lib.hid hnew; clear hnew
        have HOwn3 := Lib.hid hown3; clear hown3
        go_wp2
        go_roundg (c + 3 - (i + 1))
        case measure => clear ex exw eM eo; omega
        case rel => exact ⟨i + 1, t, swp dk i x, by go_num, rfl, ⟨by clear ex exw eM eo; omega, by clear ex exw eM eo; omega⟩, by rw [size_swp]; exact HSk.out, permIn_trans _ _ _ _ _ HPerm.out (swp_permIn dk a b i x (by clear ex exw eM eo; omega) (by clear ex exw eM eo; omega) hxa hxb (by rw [HSk.out]; exact hb)), HP3.out, HOwn3.out⟩
    · have hicB : decide ((i : Int) ≤ (c : Int) + 1 + 1) = false := by simp; omega
      have hicB2 : decide ((i : Int) ≤ (c : Int) + 2) = false := by simp; omega
      go_wp2
      go_end0
      exact ⟨rfl, dk, HPerm.out, HPk.out⟩
end Go.Proofs.Ythldjdkjgiebaaa.S64
