/-
  Several texts in one: The walk of partitionEqualOrdered at words; The walk of partialInsertionSortOrdered at words; The walks of order2Ordered, medianOrdered, medianAdjacentOrdered and choosePivotOrdered at words: some place of the range is chosen, and nothing of the row turns; The walk of choosePivotOrdered at words: some place of the range, and some hint; The walks of (*xorshift).Next, nextPowerOfTwo and breakPatternsOrdered at words: the range is permuted in some way; The walk of pdqsortOrdered at words: the range comes out a permutation of what it was, in rising order; The walks of slices.Sort, slices.Sorted and Blocks: the numbers of the blocks that are there, rising, in a new row. By an AI agent.
-/
import Derived.Test.YthgabbkpjffdnaaDoorSortPart
import Derived.Test.YthgabbkpjffdnaaDoorShelf
import Derived.OpenShut
import Derived.Laws.Bits64b
import Derived.Test.YthgabbkpjffdnaaDoorArenaColl
set_option linter.unusedSimpArgs false
namespace Go.Proofs.YthgabbkpjffdnaaDoor.S64
open Go.RowKit Go.Sort
variable {hd tl : List Value} {blk off : Nat}
/-- An index, and the row. -/
def Part1 (hd tl : List Value) (blk off : Nat) (r : Nat × Array Int) (w : World) (e : Ending) (w' : World) : Prop := e = .returned (.int .i64 (r.1 : Int)) ∧ Pt hd tl blk off r.2 w w'
set_option maxRecDepth 100000 in
set_option maxHeartbeats 4000000 in
theorem parteq_any (cap a b pv N : Nat) (d : Array Int) (w : World) (hR : Rw hd tl blk off w d) (hN : d.size = N) (hpa : a ≤ pv) (hpb : pv ≤ b) (hb : b < N) (hsz : N ≤ 1000000) :
    Calls Tryd.prog 81 #[.slice (some ⟨blk, off, none⟩) N cap, .int .i64 (a : Int), .int .i64 ((b : Int) + 1), .int .i64 (pv : Int)] w (Part1 hd tl blk off (partitionEqual ltInt d a (b + 1) pv) w) := by
  have P0 := Lib.hid hR.refl; clear hR
  have HN := Lib.hid hN; clear hN
  have HE : Hid (partitionEqual ltInt d a (b + 1) pv = partEqLoop ltInt a (a + 1) b (swp d a pv)) := Lib.hid rfl
  obtain ⟨G, hG⟩ : ∃ G : Nat → Int, ∀ t, G t = d[t]! := ⟨fun t => d[t]!, fun _ => rfl⟩
  have HG := Lib.hid hG; clear hG
  go_enter Tryd.func81, Tryd.ntmps81
  have hcw : ∀ t, t < N → w.cell? ⟨blk, off + t, none⟩ = some (.int .u64 (G t)) := fun t ht => by rw [HG.out]; exact P0.out.row.cell (by rw [HN.out]; exact ht)
  have hfw : ∀ t, t < N → w.frozen? ⟨blk, off + t, none⟩ = false := fun t _ => P0.out.row.frozen t
  have hcs := P0.out.cell_swap (i := a) (j := pv) (by rw [HN.out]; omega) (by rw [HN.out]; omega)
  rw [← HG.out] at hcs
  have hiN : a < N := by omega
  have hjN : pv < N := by omega
  go_upto_region 1 with (fail)
  go_region
  have hnew := (P0.out.swap (i := a) (j := pv) (by rw [HN.out]; omega) (by rw [HN.out]; omega)).drew
  rw [← HG.out, ← HG.out] at hnew
  clear hcs hcw hfw
  generalize ((w.setCell ⟨blk, off + a, none⟩ (.int .u64 (G pv))).setCell ⟨blk, off + pv, none⟩ (.int .u64 (G a))).drew = W1 at hnew ⊢
  have HP1 := Lib.hid hnew; clear hnew hiN hjN
  obtain ⟨d1, hd1⟩ : ∃ d1, d1 = swp d a pv := ⟨_, rfl⟩
  have HS1 : Hid (d1.size = N) := Lib.hid (by rw [hd1, size_swp]; exact HN.out)
  rw [← hd1] at HP1 HE
  clear hd1 HG HN P0
  go_wp2_with fail
  go_loopg [9, 10] (b + 1 - (a + 1)) (fun k vi vj wr => ∃ (i j : Nat) (dk : Array Int), vi = .int .i64 (i : Int) ∧ vj = .int .i64 (j : Int) ∧ k = j + 1 - i ∧ (a < i ∧ i ≤ N ∧ a ≤ j ∧ j < N) ∧ dk.size = N ∧ Pt hd tl blk off dk w wr ∧ partEqLoop ltInt a i j dk = partEqLoop ltInt a (a + 1) b d1)
  case atStart => exact ⟨a + 1, b, d1, by go_num, by go_num, rfl, ⟨by omega, by omega, by omega, by omega⟩, HS1.out, HP1.out, rfl⟩
  case round =>
    obtain ⟨i, j, dk, rfl, rfl, rfl, ⟨hi1, hi2, hj1, hj2⟩, hsk, hpk, hO⟩ := hrel
    have HO := Lib.hid hO; clear hO
    have HSk := Lib.hid hsk; clear hsk
    have HPk := Lib.hid hpk; clear hpk HP1
    obtain ⟨Gk, hG⟩ : ∃ G : Nat → Int, ∀ t, G t = dk[t]! := ⟨fun t => dk[t]!, fun _ => rfl⟩
    have HGk := Lib.hid hG; clear hG
    go_upto_block 2 with (fail)
    go_cut [9] (fun vi wx => ∃ q : Nat, vi = .int .i64 (q : Int) ∧ q = scanUp (fun x => !ltInt dk[a]! x) dk j i ∧ (i ≤ q ∧ q ≤ N) ∧ Pt hd tl blk off dk w wx)
    case first =>
      go_wp2_with fail
      go_loopg [9] (N + 1 - i) (fun k vi wr => ∃ q : Nat, vi = .int .i64 (q : Int) ∧ k = N + 1 - q ∧ (i ≤ q ∧ q ≤ N) ∧ scanUp (fun x => !ltInt dk[a]! x) dk j q = scanUp (fun x => !ltInt dk[a]! x) dk j i ∧ Pt hd tl blk off dk w wr)
      case atStart => exact ⟨i, rfl, rfl, ⟨by omega, by omega⟩, rfl, HPk.out⟩
      case round =>
        obtain ⟨q, rfl, rfl, ⟨hq1, hq2⟩, hq3, hq4⟩ := hrel
        have HQ3 := Lib.hid hq3; clear hq3
        have hcw : ∀ t, t < N → wr.cell? ⟨blk, off + t, none⟩ = some (.int .u64 (Gk t)) := fun t ht => by rw [HGk.out]; exact hq4.row.cell (by rw [HSk.out]; exact ht)
        have HQ4 := Lib.hid hq4; clear hq4
        have HLe := Lib.hid less_q
        by_cases hle : q ≤ j
        · have hleZ : (q : Int) ≤ (j : Int) := by omega
          have hqN : q < N := by omega
          cases hl : ltInt (Gk a) (Gk q)
          · skip
            go_wp2
            go_quiet ((go_at_call 80; with_reducible exact HLe.out _ _ _ _))
            go_wp2
            go_roundg (N + 1 - (q + 1))
            case measure => omega
            case rel => exact ⟨q + 1, by go_num, rfl, ⟨by omega, by omega⟩, by rw [← HQ3.out]; exact (up_on hle (by have e := hl; rw [HGk.out, HGk.out] at e; simp [e])).symm, HQ4.out.drewN _⟩
          · skip
            go_wp2
            go_quiet ((go_at_call 80; with_reducible exact HLe.out _ _ _ _))
            go_wp2
            go_meet
            case rel => exact ⟨q, rfl, by rw [← HQ3.out]; exact (up_off (.inr (by have e := hl; rw [HGk.out, HGk.out] at e; simp [e]))).symm, ⟨hq1, hq2⟩, HQ4.out.drewN _⟩
        · have hleB : decide ((q : Int) ≤ (j : Int)) = false := by simp; omega
          go_wp2
          go_quiet ((go_at_call 80; with_reducible exact HLe.out _ _ _ _))
          go_wp2
          go_meet
          case rel => exact ⟨q, rfl, by rw [← HQ3.out]; exact (up_off (.inl hle)).symm, ⟨hq1, hq2⟩, HQ4.out.drewN _⟩
    case rest =>
      obtain ⟨i2, rfl, h1, ⟨hb1i2, hb2i2⟩, h2⟩ := hcut
      have Hi2 := Lib.hid h1; clear h1
      have HPi2 := Lib.hid h2; clear h2
      go_upto_block 4 with (fail)
      go_cut [10] (fun vi wx => ∃ q : Nat, vi = .int .i64 (q : Int) ∧ q = scanDown (fun x => ltInt dk[a]! x) dk i2 j ∧ (a ≤ q ∧ q ≤ j) ∧ Pt hd tl blk off dk w wx)
      case first =>
        go_wp2_with fail
        go_loopg [10] (j + 1) (fun k vi wr => ∃ q : Nat, vi = .int .i64 (q : Int) ∧ k = q + 1 ∧ (a ≤ q ∧ q ≤ j) ∧ scanDown (fun x => ltInt dk[a]! x) dk i2 q = scanDown (fun x => ltInt dk[a]! x) dk i2 j ∧ Pt hd tl blk off dk w wr)
        case atStart => exact ⟨j, rfl, rfl, ⟨by omega, by omega⟩, rfl, HPi2.out⟩
        case round =>
          obtain ⟨q, rfl, rfl, ⟨hq1, hq2⟩, hq3, hq4⟩ := hrel
          have HQ3 := Lib.hid hq3; clear hq3
          have hcw : ∀ t, t < N → wr.cell? ⟨blk, off + t, none⟩ = some (.int .u64 (Gk t)) := fun t ht => by rw [HGk.out]; exact hq4.row.cell (by rw [HSk.out]; exact ht)
          have HQ4 := Lib.hid hq4; clear hq4
          have HLe := Lib.hid less_q
          by_cases hle : i2 ≤ q
          · have hleZ : (i2 : Int) ≤ (q : Int) := by omega
            have hqN : q < N := by omega
            have hq0 : 1 ≤ q := by omega
            have eq1 : (q : Int) - 1 = ((q - 1 : Nat) : Int) := by omega
            have Eq1 := Lib.hid eq1; clear eq1
            cases hl : ltInt (Gk a) (Gk q)
            · skip
              go_wp2
              go_quiet ((go_at_call 80; with_reducible exact HLe.out _ _ _ _))
              go_wp2
              go_meet
              case rel => exact ⟨q, rfl, by rw [← HQ3.out]; exact (down_off (.inr (by have e := hl; rw [HGk.out, HGk.out] at e; simp [e]))).symm, ⟨hq1, hq2⟩, HQ4.out.drewN _⟩
            · skip
              go_wp2
              go_quiet ((go_at_call 80; with_reducible exact HLe.out _ _ _ _))
              go_wp2
              go_roundg (q - 1 + 1)
              case measure => omega
              case rel => exact ⟨q - 1, by rw [Eq1.out], rfl, ⟨by omega, by omega⟩, by rw [← HQ3.out]; exact (down_on hq0 hle (by have e := hl; rw [HGk.out, HGk.out] at e; simp [e])).symm, HQ4.out.drewN _⟩
          · have hleB : decide ((i2 : Int) ≤ (q : Int)) = false := by simp; omega
            go_wp2
            go_quiet ((go_at_call 80; with_reducible exact HLe.out _ _ _ _))
            go_wp2
            go_meet
            case rel => exact ⟨q, rfl, by rw [← HQ3.out]; exact (down_off (.inl hle)).symm, ⟨hq1, hq2⟩, HQ4.out.drewN _⟩
      case rest =>
        obtain ⟨j2, rfl, h1, ⟨hb1j2, hb2j2⟩, h2⟩ := hcut
        have Hj2 := Lib.hid h1; clear h1
        have HPj2 := Lib.hid h2; clear h2
        have hle0 : i ≤ i2 := hb1i2
        have hle1 : j2 ≤ j := hb2j2
        have e := HO.out
        rw [partEqLoop_eq, ← Hi2.out, ← Hj2.out] at e
        have HO2 := Lib.hid e; clear e HO Hi2 Hj2
        by_cases hgt : j2 < i2
        · have hgtZ : (j2 : Int) < (i2 : Int) := by omega
          go_wp2
          go_ret
          have e := HO2.out
          rw [if_pos hgt] at e
          rw [HE.out, ← e]
          exact ⟨rfl, HPj2.out⟩
        · have hgtB : decide ((j2 : Int) < (i2 : Int)) = false := by simp; omega
          have hcw : ∀ t, t < N → wc.cell? ⟨blk, off + t, none⟩ = some (.int .u64 (Gk t)) := fun t ht => by rw [HGk.out]; exact HPj2.out.row.cell (by rw [HSk.out]; exact ht)
          have hfw : ∀ t, t < N → wc.frozen? ⟨blk, off + t, none⟩ = false := fun t _ => HPj2.out.row.frozen t
          have hcs := HPj2.out.cell_swap (i := i2) (j := j2) (by rw [HSk.out]; omega) (by rw [HSk.out]; omega)
          rw [← HGk.out] at hcs
          have hiN : i2 < N := by omega
          have hjN : j2 < N := by omega
          go_upto_region 8 with (fail)
          go_region
          have hnew := (HPj2.out.swap (i := i2) (j := j2) (by rw [HSk.out]; omega) (by rw [HSk.out]; omega)).drew
          rw [← HGk.out, ← HGk.out] at hnew
          clear hcs hcw hfw
          generalize ((wc.setCell ⟨blk, off + i2, none⟩ (.int .u64 (Gk j2))).setCell ⟨blk, off + j2, none⟩ (.int .u64 (Gk i2))).drew = W3 at hnew ⊢
          have HP3 := Lib.hid hnew; clear hnew hiN hjN
          obtain ⟨j3, rfl⟩ : ∃ j3, j2 = j3 + 1 := ⟨j2 - 1, by omega⟩
          go_wp2
          go_roundg (j3 + 1 - (i2 + 1))
          case measure => omega
          case rel =>
            exact ⟨i2 + 1, j3, swp dk i2 (j3 + 1), by go_num, by go_num, rfl, ⟨by omega, by omega, by omega, by omega⟩, by rw [size_swp]; exact HSk.out, HP3.out, by have e := HO2.out; rw [if_neg hgt] at e; exact e⟩
end Go.Proofs.YthgabbkpjffdnaaDoor.S64
set_option linter.unusedSimpArgs false
namespace Go.Proofs.YthgabbkpjffdnaaDoor.S64
open Go.RowKit Go.Sort
variable {hd tl : List Value} {blk off : Nat}
/-- A bool, and the row. -/
def Part2 (hd tl : List Value) (blk off : Nat) (r : Array Int × Bool) (w : World) (e : Ending) (w' : World) : Prop := e = .returned (.bool r.2) ∧ Pt hd tl blk off r.1 w w'
theorem so_on {d : Array Int} {b i : Nat} (h : i + 1 < b) (hp : ltInt d[i + 1]! d[i]! = false) : scanSorted ltInt d b (i + 1) = scanSorted ltInt d b (i + 2) := by
  conv => lhs; rw [scanSorted]
  simp [h, hp]
theorem so_off {d : Array Int} {b i : Nat} (h : ¬ i + 1 < b ∨ ltInt d[i + 1]! d[i]! = true) : scanSorted ltInt d b (i + 1) = i + 1 := by
  rw [scanSorted]
  rcases h with h | h
  · simp [h]
  · simp [h]
theorem sd_on {d : Array Int} {j : Nat} (hp : ltInt d[j + 1]! d[j]! = true) : shiftDown ltInt (j + 1) d = shiftDown ltInt j (swp d (j + 1) j) := by rw [shiftDown]; simp [hp]
theorem sd_off {d : Array Int} {j : Nat} (hp : ltInt d[j + 1]! d[j]! = false) : shiftDown ltInt (j + 1) d = d := by rw [shiftDown]; simp [hp]
theorem su_on {d : Array Int} {b j : Nat} (h : j + 1 < b) (hp : ltInt d[j + 1]! d[j]! = true) : shiftUp ltInt b (j + 1) d = shiftUp ltInt b (j + 2) (swp d (j + 1) j) := by rw [shiftUp]; simp [h, hp]
theorem su_off {d : Array Int} {b j : Nat} (h : ¬ j + 1 < b ∨ ltInt d[j + 1]! d[j]! = false) : shiftUp ltInt b (j + 1) d = d := by
  rw [shiftUp]
  rcases h with h | h
  · simp [h]
  · by_cases h2 : j + 1 < b <;> simp [h, h2]
set_option maxRecDepth 100000 in
set_option maxHeartbeats 4000000 in
theorem pins_any (cap a b N : Nat) (d : Array Int) (w : World) (hR : Rw hd tl blk off w d) (hN : d.size = N) (hab : a < b) (hb : b ≤ N) (hsz : N ≤ 1000000) :
    Calls Tryd.prog 79 #[.slice (some ⟨blk, off, none⟩) N cap, .int .i64 (a : Int), .int .i64 (b : Int)] w (Part2 hd tl blk off (partialInsertionSort ltInt d a b) w) := by
  have P0 := Lib.hid hR.refl; clear hR
  have HN := Lib.hid hN; clear hN
  have HLe := Lib.hid less_q
  go_enter Tryd.func79, Tryd.ntmps79
  go_wp2_with fail
  go_loopg [7, 8] 5 (fun k vi vt wr => ∃ (i t : Nat) (dk : Array Int), vi = .int .i64 (i : Int) ∧ vt = .int .i64 (t : Int) ∧ k = 5 - t ∧ (t ≤ 5 ∧ a < i ∧ i ≤ b) ∧ dk.size = N ∧ Pt hd tl blk off dk w wr ∧ partialIns ltInt a b (5 - t) i dk = partialInsertionSort ltInt d a b)
  case atStart => exact ⟨a + 1, 0, d, by go_num, rfl, rfl, ⟨by omega, by omega, by omega⟩, HN.out, P0.out, rfl⟩
  case round =>
    obtain ⟨i, t, dk, rfl, rfl, rfl, ⟨ht5, hai, hib⟩, hsk, hpk, hO⟩ := hrel
    have HO := Lib.hid hO; clear hO
    have HSk := Lib.hid hsk; clear hsk
    have HPk := Lib.hid hpk; clear hpk
    by_cases htl : t < 5
    · have htZ : (t : Int) < 5 := by omega
      obtain ⟨s, hs⟩ : ∃ s, 5 - t = s + 1 := ⟨5 - t - 1, by omega⟩
      have e := HO.out
      rw [hs, partialIns_succ] at e
      have HO1 := Lib.hid e; clear e HO
      have Hs := Lib.hid hs; clear hs
      obtain ⟨G, hG⟩ : ∃ G : Nat → Int, ∀ t, G t = dk[t]! := ⟨fun t => dk[t]!, fun _ => rfl⟩
      have HG := Lib.hid hG; clear hG
      go_upto_block 2 with (fail)
      go_cut [7] (fun vi wx => ∃ q : Nat, vi = .int .i64 (q : Int) ∧ q = scanSorted ltInt dk b i ∧ (i ≤ q ∧ q ≤ b) ∧ Pt hd tl blk off dk w wx)
      case first =>
        go_wp2_with fail
        go_loopg [7] (b + 1 - i) (fun k vi wr => ∃ q : Nat, vi = .int .i64 (q : Int) ∧ k = b + 1 - q ∧ (i ≤ q ∧ q ≤ b) ∧ scanSorted ltInt dk b q = scanSorted ltInt dk b i ∧ Pt hd tl blk off dk w wr)
        case atStart => exact ⟨i, rfl, rfl, ⟨Nat.le_refl _, hib⟩, rfl, HPk.out⟩
        case round =>
          obtain ⟨q, rfl, rfl, ⟨hq1, hq2⟩, hq3, hq4⟩ := hrel
          obtain ⟨p, rfl⟩ : ∃ p, q = p + 1 := ⟨q - 1, by omega⟩
          have HQ3 := Lib.hid hq3; clear hq3
          have hcw : ∀ t, t < N → wr.cell? ⟨blk, off + t, none⟩ = some (.int .u64 (G t)) := fun t ht => by rw [HG.out]; exact hq4.row.cell (by rw [HSk.out]; exact ht)
          have HQ4 := Lib.hid hq4; clear hq4
          by_cases hlt : p + 1 < b
          · have hltZ : (p : Int) + 1 < (b : Int) := by omega
            have hpN : p + 1 < N := by omega
            cases hl : ltInt (G (p + 1)) (G p)
            · go_wp2
              go_quiet ((go_at_call 80; with_reducible exact HLe.out _ _ _ _))
              go_wp2
              go_roundg (b + 1 - (p + 2))
              case measure => omega
              case rel => exact ⟨p + 2, by go_num, rfl, ⟨by omega, by omega⟩, by rw [← HQ3.out]; exact (so_on hlt (by have e := hl; rw [HG.out, HG.out] at e; exact e)).symm, HQ4.out.drewN _⟩
            · go_wp2
              go_quiet ((go_at_call 80; with_reducible exact HLe.out _ _ _ _))
              go_wp2
              go_meet
              case rel => exact ⟨p + 1, by go_num, by rw [← HQ3.out]; exact (so_off (.inr (by have e := hl; rw [HG.out, HG.out] at e; exact e))).symm, ⟨hq1, hq2⟩, HQ4.out.drewN _⟩
          · have hltB : decide ((p : Int) + 1 < (b : Int)) = false := by simp; omega
            go_wp2
            go_quiet ((go_at_call 80; with_reducible exact HLe.out _ _ _ _))
            go_wp2
            go_meet
            case rel => exact ⟨p + 1, by go_num, by rw [← HQ3.out]; exact (so_off (.inl hlt)).symm, ⟨hq1, hq2⟩, HQ4.out.drewN _⟩
      case rest =>
        obtain ⟨q, rfl, h1, ⟨hq1, hq2⟩, h2⟩ := hcut
        have e := HO1.out
        rw [← h1] at e
        have HO2 := Lib.hid e; clear e HO1 h1
        have HP2 := Lib.hid h2; clear h2
        by_cases hqb : q = b
        · have hqB : ((q : Int) == (b : Int)) = true := by simp; omega
          go_wp2
          go_ret
          have e := HO2.out
          rw [if_pos hqb] at e
          rw [← e]
          exact ⟨rfl, HP2.out⟩
        · have hqB : ((q : Int) == (b : Int)) = false := by simp; omega
          have e := HO2.out
          rw [if_neg hqb] at e
          have HO3 := Lib.hid e; clear e HO2
          by_cases h50 : b - a < 50
          · have h50Z : (b : Int) - (a : Int) < 50 := by omega
            go_wp2
            go_ret
            have e := HO3.out
            rw [if_pos h50] at e
            rw [← e]
            exact ⟨rfl, HP2.out⟩
          · have h50Z : ¬ (b : Int) - (a : Int) < 50 := by omega
            have h50B : decide ((b : Int) - (a : Int) < 50) = false := by simp; omega
            have e := HO3.out
            rw [if_neg h50] at e
            have HO4 := Lib.hid e; clear e HO3
            obtain ⟨r, rfl⟩ : ∃ r, q = r + 1 := ⟨q - 1, by omega⟩
            have hqB' : ((r : Int) + 1 == (b : Int)) = false := by simp; omega
            clear hqB
            have hcw : ∀ t, t < N → wc.cell? ⟨blk, off + t, none⟩ = some (.int .u64 (G t)) := fun t ht => by rw [HG.out]; exact HP2.out.row.cell (by rw [HSk.out]; exact ht)
            have hfw : ∀ t, t < N → wc.frozen? ⟨blk, off + t, none⟩ = false := fun t _ => HP2.out.row.frozen t
            have hcs := HP2.out.cell_swap (i := (r + 1)) (j := r) (by rw [HSk.out]; omega) (by rw [HSk.out]; omega)
            rw [← HG.out] at hcs
            have hiN : (r + 1) < N := by omega
            have hjN : r < N := by omega
            go_upto_region 11 with (fail)
            go_region
            have hnew := (HP2.out.swap (i := (r + 1)) (j := r) (by rw [HSk.out]; omega) (by rw [HSk.out]; omega)).drew
            rw [← HG.out, ← HG.out] at hnew
            clear hcs hcw hfw
            generalize ((wc.setCell ⟨blk, off + (r + 1), none⟩ (.int .u64 (G r))).setCell ⟨blk, off + r, none⟩ (.int .u64 (G (r + 1)))).drew = Ws at hnew ⊢
            have HPs := Lib.hid hnew; clear hnew hiN hjN
            obtain ⟨d2, hd2⟩ : ∃ d2, d2 = swp dk (r + 1) r := ⟨_, rfl⟩
            have HS2 : Hid (d2.size = N) := Lib.hid (by rw [hd2, size_swp]; exact HSk.out)
            have HO5 : Hid (partialIns ltInt a b s (r + 1) (fixUp ltInt b (r + 1) (fixDown ltInt a (r + 1) d2)) = partialInsertionSort ltInt d a b) := Lib.hid (by rw [hd2]; exact HO4.out)
            rw [← hd2] at HPs
            clear hd2 HG HPk HP2 HO4
            go_upto_if 61 with (fail)
            go_cut [9] (fun vj wx => ∃ d3 : Array Int, d3 = fixDown ltInt a (r + 1) d2 ∧ d3.size = N ∧ Pt hd tl blk off d3 w wx)
            case first =>
              by_cases h2 : r + 1 - a ≥ 2
              · have h2Z : (2 : Int) ≤ (r : Int) + 1 - (a : Int) := by omega
                go_wp2_with fail
                go_loopg [9] (r + 1) (fun k vj wr => ∃ (q : Nat) (dj : Array Int), vj = .int .i64 (q : Int) ∧ k = q + 1 ∧ q ≤ r ∧ dj.size = N ∧ Pt hd tl blk off dj w wr ∧ shiftDown ltInt q dj = shiftDown ltInt r d2)
                case atStart => exact ⟨r, d2, by go_num, rfl, Nat.le_refl _, HS2.out, HPs.out, rfl⟩
                case round =>
                  obtain ⟨q, dj, rfl, rfl, hqr, hsj, hpj, hI⟩ := hrel
                  have HI := Lib.hid hI; clear hI
                  have HSj := Lib.hid hsj; clear hsj
                  have HPj := Lib.hid hpj; clear hpj
                  cases q with
                  | zero =>
                    go_wp2
                    go_meet
                    case rel => exact ⟨dj, by have e := HI.out; rw [shiftDown] at e; rw [e]; unfold fixDown; rw [if_pos h2]; rfl, HSj.out, HPj.out⟩
                  | succ q =>
                    obtain ⟨Gj, hG⟩ : ∃ G : Nat → Int, ∀ t, G t = dj[t]! := ⟨fun t => dj[t]!, fun _ => rfl⟩
                    have HGj := Lib.hid hG; clear hG
                    cases hl : ltInt (Gj (q + 1)) (Gj q)
                    · have hcw : ∀ t, t < N → wr.cell? ⟨blk, off + t, none⟩ = some (.int .u64 (Gj t)) := fun t ht => by rw [HGj.out]; exact HPj.out.row.cell (by rw [HSj.out]; exact ht)
                      go_wp2
                      go_quiet ((go_at_call 80; with_reducible exact HLe.out _ _ _ _))
                      go_wp2
                      go_meet
                      case rel => exact ⟨dj, by have e := HI.out; rw [sd_off (by have e := hl; rw [HGj.out, HGj.out] at e; exact e)] at e; rw [e]; unfold fixDown; rw [if_pos h2]; rfl, HSj.out, HPj.out.drewN _⟩
                    · have hcw : ∀ t, t < N → wr.cell? ⟨blk, off + t, none⟩ = some (.int .u64 (Gj t)) := fun t ht => by rw [HGj.out]; exact HPj.out.row.cell (by rw [HSj.out]; exact ht)
                      go_wp2
                      go_quiet ((go_at_call 80; with_reducible exact HLe.out _ _ _ _))
                      have HPq := Lib.hid (HPj.out.drewN nq)
                      clear hcw
                      generalize wr.drewN nq = wq at HPq ⊢
                      have hcw : ∀ t, t < N → wq.cell? ⟨blk, off + t, none⟩ = some (.int .u64 (Gj t)) := fun t ht => by rw [HGj.out]; exact HPq.out.row.cell (by rw [HSj.out]; exact ht)
                      have hfw : ∀ t, t < N → wq.frozen? ⟨blk, off + t, none⟩ = false := fun t _ => HPq.out.row.frozen t
                      have hcs := HPq.out.cell_swap (i := (q + 1)) (j := q) (by rw [HSj.out]; omega) (by rw [HSj.out]; omega)
                      rw [← HGj.out] at hcs
                      have hiN : (q + 1) < N := by omega
                      have hjN : q < N := by omega
                      go_upto_region 17 with (fail)
                      go_region
                      have hnew := (HPq.out.swap (i := (q + 1)) (j := q) (by rw [HSj.out]; omega) (by rw [HSj.out]; omega)).drew
                      rw [← HGj.out, ← HGj.out] at hnew
                      clear hcs hcw hfw
                      generalize ((wq.setCell ⟨blk, off + (q + 1), none⟩ (.int .u64 (Gj q))).setCell ⟨blk, off + q, none⟩ (.int .u64 (Gj (q + 1)))).drew = Wt at hnew ⊢
                      have HPt := Lib.hid hnew; clear hnew hiN hjN
                      go_wp2
                      go_roundg (q + 1)
                      case measure => omega
                      case rel => exact ⟨q, swp dj (q + 1) q, by go_num, rfl, by omega, by rw [size_swp]; exact HSj.out, HPt.out, by have e := HI.out; rw [sd_on (by have e := hl; rw [HGj.out, HGj.out] at e; exact e)] at e; exact e⟩
              · have h2Z : ¬ (2 : Int) ≤ (r : Int) + 1 - (a : Int) := by omega
                have h2B : decide ((2 : Int) ≤ (r : Int) + 1 - (a : Int)) = false := by simp; omega
                go_wp2
                go_meet
                case rel => exact ⟨d2, by unfold fixDown; rw [if_neg h2], HS2.out, HPs.out⟩
            case rest =>
              obtain ⟨d3, h3, hs3, hp3⟩ := hcut
              rw [← h3] at HO5
              have HS3 := Lib.hid hs3; clear hs3
              have HP3 := Lib.hid hp3; clear hp3 h3 HPs HS2
              by_cases h2 : b - (r + 1) ≥ 2
              · have h2Z : (2 : Int) ≤ (b : Int) - ((r : Int) + 1) := by omega
                go_wp2_with fail
                go_loopg [10] (b + 1 - (r + 2)) (fun k vj wr => ∃ (q : Nat) (dj : Array Int), vj = .int .i64 (q : Int) ∧ k = b + 1 - q ∧ (1 ≤ q ∧ q ≤ b) ∧ dj.size = N ∧ Pt hd tl blk off dj w wr ∧ shiftUp ltInt b q dj = shiftUp ltInt b (r + 2) d3)
                case atStart => exact ⟨r + 2, d3, by go_num, rfl, ⟨by omega, by omega⟩, HS3.out, HP3.out, rfl⟩
                case round =>
                  obtain ⟨q, dj, rfl, rfl, ⟨hq1, hq2⟩, hsj, hpj, hI⟩ := hrel
                  have HI := Lib.hid hI; clear hI
                  have HSj := Lib.hid hsj; clear hsj
                  have HPj := Lib.hid hpj; clear hpj
                  obtain ⟨q, rfl⟩ : ∃ p, q = p + 1 := ⟨q - 1, by omega⟩
                  by_cases hqb : q + 1 < b
                  · have hqZ : (q : Int) + 1 < (b : Int) := by omega
                    have hqN : q + 1 < N := by omega
                    obtain ⟨Gj, hG⟩ : ∃ G : Nat → Int, ∀ t, G t = dj[t]! := ⟨fun t => dj[t]!, fun _ => rfl⟩
                    have HGj := Lib.hid hG; clear hG
                    cases hl : ltInt (Gj (q + 1)) (Gj q)
                    · have hcw : ∀ t, t < N → wr.cell? ⟨blk, off + t, none⟩ = some (.int .u64 (Gj t)) := fun t ht => by rw [HGj.out]; exact HPj.out.row.cell (by rw [HSj.out]; exact ht)
                      go_wp2
                      go_quiet ((go_at_call 80; with_reducible exact HLe.out _ _ _ _))
                      go_wp2
                      go_roundg s
                      case measure => have := Hs.out; omega
                      case rel =>
                        have e4 : dj = fixUp ltInt b (r + 1) d3 := by have e := HI.out; rw [su_off (.inr (by have e := hl; rw [HGj.out, HGj.out] at e; exact e))] at e; rw [e]; unfold fixUp; rw [if_pos h2]
                        exact ⟨r + 1, t + 1, dj, by go_num, by go_num, by have := Hs.out; omega, ⟨by omega, by omega, by omega⟩, HSj.out, HPj.out.drewN _, by have e := HO5.out; rw [← e4] at e; rw [show 5 - (t + 1) = s by have := Hs.out; omega]; exact e⟩
                    · have hcw : ∀ t, t < N → wr.cell? ⟨blk, off + t, none⟩ = some (.int .u64 (Gj t)) := fun t ht => by rw [HGj.out]; exact HPj.out.row.cell (by rw [HSj.out]; exact ht)
                      go_wp2
                      go_quiet ((go_at_call 80; with_reducible exact HLe.out _ _ _ _))
                      have HPq := Lib.hid (HPj.out.drewN nq)
                      clear hcw
                      generalize wr.drewN nq = wq at HPq ⊢
                      have hcw : ∀ t, t < N → wq.cell? ⟨blk, off + t, none⟩ = some (.int .u64 (Gj t)) := fun t ht => by rw [HGj.out]; exact HPq.out.row.cell (by rw [HSj.out]; exact ht)
                      have hfw : ∀ t, t < N → wq.frozen? ⟨blk, off + t, none⟩ = false := fun t _ => HPq.out.row.frozen t
                      have hcs := HPq.out.cell_swap (i := (q + 1)) (j := q) (by rw [HSj.out]; omega) (by rw [HSj.out]; omega)
                      rw [← HGj.out] at hcs
                      have hiN : (q + 1) < N := by omega
                      have hjN : q < N := by omega
                      go_upto_region 23 with (fail)
                      go_region
                      have hnew := (HPq.out.swap (i := (q + 1)) (j := q) (by rw [HSj.out]; omega) (by rw [HSj.out]; omega)).drew
                      rw [← HGj.out, ← HGj.out] at hnew
                      clear hcs hcw hfw
                      generalize ((wq.setCell ⟨blk, off + (q + 1), none⟩ (.int .u64 (Gj q))).setCell ⟨blk, off + q, none⟩ (.int .u64 (Gj (q + 1)))).drew = Wt at hnew ⊢
                      have HPt := Lib.hid hnew; clear hnew hiN hjN
                      go_wp2
                      go_roundg (b + 1 - (q + 2))
                      case measure => omega
                      case rel => exact ⟨q + 2, swp dj (q + 1) q, by go_num, rfl, ⟨by omega, by omega⟩, by rw [size_swp]; exact HSj.out, HPt.out, by have e := HI.out; rw [su_on hqb (by have e := hl; rw [HGj.out, HGj.out] at e; exact e)] at e; exact e⟩
                  · have hqZ : ¬ (q : Int) + 1 < (b : Int) := by omega
                    have hqB2 : decide ((q : Int) + 1 < (b : Int)) = false := by simp; omega
                    go_wp2
                    go_roundg s
                    case measure => have := Hs.out; omega
                    case rel =>
                      have e4 : dj = fixUp ltInt b (r + 1) d3 := by have e := HI.out; rw [su_off (.inl hqb)] at e; rw [e]; unfold fixUp; rw [if_pos h2]
                      exact ⟨r + 1, t + 1, dj, by go_num, by go_num, by have := Hs.out; omega, ⟨by omega, by omega, by omega⟩, HSj.out, HPj.out, by have e := HO5.out; rw [← e4] at e; rw [show 5 - (t + 1) = s by have := Hs.out; omega]; exact e⟩
              · have h2Z : ¬ (2 : Int) ≤ (b : Int) - ((r : Int) + 1) := by omega
                have h2B : decide ((2 : Int) ≤ (b : Int) - ((r : Int) + 1)) = false := by simp; omega
                go_wp2
                go_roundg s
                case measure => have := Hs.out; omega
                case rel =>
                  have e4 : d3 = fixUp ltInt b (r + 1) d3 := by unfold fixUp; rw [if_neg h2]
                  exact ⟨r + 1, t + 1, d3, by go_num, by go_num, by have := Hs.out; omega, ⟨by omega, by omega, by omega⟩, HS3.out, HP3.out, by have e := HO5.out; rw [← e4] at e; rw [show 5 - (t + 1) = s by have := Hs.out; omega]; exact e⟩
    · have htB : decide ((t : Int) < 5) = false := by simp; omega
      go_wp2
      go_ret
      have e := HO.out
      rw [show 5 - t = 0 by omega, partialIns] at e
      rw [← e]
      exact ⟨rfl, HPk.out⟩
end Go.Proofs.YthgabbkpjffdnaaDoor.S64
set_option linter.unusedSimpArgs false
namespace Go.Proofs.YthgabbkpjffdnaaDoor.S64
open Go.RowKit Go.Sort
variable {hd tl : List Value} {blk off : Nat}
/-- A counter in a box of its own; nothing else turns. -/
structure Bk (bx s : Nat) (w w' : World) : Prop where
  os : w'.os = w.os
  tape : w'.tape = w.tape
  output : w'.output = w.output
  size : w.heap.size ≤ w'.heap.size
  block : ∀ k, k < w.heap.size → k ≠ bx → w'.heap[k]? = w.heap[k]?
  own : w'.heap[bx]? = some (.cells #[.int .i64 (s : Int)] 3 (0, 0))
theorem Bk.trans {bx s s' : Nat} {w w' w'' : World} (h : Bk bx s w w') (h' : Bk bx s' w' w'') : Bk bx s' w w'' :=
  ⟨h'.os.trans h.os, h'.tape.trans h.tape, h'.output.trans h.output, Nat.le_trans h.size h'.size, fun k hk hb => (h'.block k (Nat.lt_of_lt_of_le hk h.size) hb).trans (h.block k hk hb), h'.own⟩
theorem Bk.refl {bx s : Nat} {w : World} (h : w.heap[bx]? = some (.cells #[.int .i64 (s : Int)] 3 (0, 0))) : Bk bx s w w := ⟨rfl, rfl, rfl, Nat.le_refl _, fun _ _ _ => rfl, h⟩
theorem Bk.drewN {bx s : Nat} {w w' : World} (h : Bk bx s w w') (n : Nat) : Bk bx s w (w'.drewN n) := ⟨h.os, h.tape, h.output, h.size, h.block, h.own⟩
theorem Bk.cell {bx s : Nat} {w w' : World} (h : Bk bx s w w') : w'.cell? ⟨bx, 0, none⟩ = some (.int .i64 (s : Int)) := by simp [World.cell?, h.own]
theorem Bk.frozen {bx s : Nat} {w w' : World} (h : Bk bx s w w') : w'.frozen? ⟨bx, 0, none⟩ = false := by simp [World.frozen?, h.own]
theorem Bk.set {bx s : Nat} {w w' : World} (h : Bk bx s w w') (t : Nat) : Bk bx t w (w'.setCell ⟨bx, 0, none⟩ (.int .i64 (t : Int))) :=
  ⟨h.os, h.tape, h.output, by simpa [World.setCell] using h.size, fun k hk hb => (Below.heap_setCell _ _ _ _ hb).trans (h.block k hk hb), by rw [heap_setc h.own]; rfl⟩
theorem Bk.row {bx s : Nat} {w w' : World} {d : Array Int} (h : Bk bx s w w') (hr : Rw hd tl blk off w d) (hb : blk ≠ bx) : Rw hd tl blk off w' d := ⟨hr.len, (h.block blk hr.lt hb).trans hr.own⟩
/-- Two of two places, in some order. -/
def Two (a b bx s : Nat) (w : World) (e : Ending) (w' : World) : Prop := ∃ x y t : Nat, e = .returned (.tuple #[.int .i64 (x : Int), .int .i64 (y : Int)]) ∧ ((x = a ∧ y = b) ∨ (x = b ∧ y = a)) ∧ t ≤ s + 1 ∧ Bk bx t w w'
/-- One of three places. -/
def One3 (a b c bx s : Nat) (w : World) (e : Ending) (w' : World) : Prop := ∃ x t : Nat, e = .returned (.int .i64 (x : Int)) ∧ (x = a ∨ x = b ∨ x = c) ∧ t ≤ s + 3 ∧ Bk bx t w w'
set_option maxRecDepth 100000 in
set_option maxHeartbeats 2000000 in
theorem order2_any (cap a b bx s N : Nat) (d : Array Int) (w : World) (hR : Rw hd tl blk off w d) (hN : d.size = N) (hB : Bk bx s w w) (ha : a < N) (hb : b < N) (hs : s ≤ 1000) (_hsz : N ≤ 1000000) :
    Calls Tryd.prog 109 #[.slice (some ⟨blk, off, none⟩) N cap, .int .i64 (a : Int), .int .i64 (b : Int), .pointer (some ⟨bx, 0, none⟩)] w (Two a b bx s w) := by
  obtain ⟨G, hG⟩ : ∃ G : Nat → Int, ∀ t, G t = d[t]! := ⟨fun t => d[t]!, fun _ => rfl⟩
  have hcw : ∀ t, t < N → w.cell? ⟨blk, off + t, none⟩ = some (.int .u64 (G t)) := fun t ht => by rw [hG]; exact hR.cell (by rw [hN]; exact ht)
  have hc := hB.cell
  have hf := hB.frozen
  have HB := Lib.hid hB; clear hB
  clear hR hN hG
  have HLe := Lib.hid fun w n => less_q w n (G b) (G a)
  cases hl : ltInt (G b) (G a)
  · rw [hl] at HLe
    clear hl
    go_enter Tryd.func109, Tryd.ntmps109
    go_wp2
    go_quiet ((go_at_call 80; with_reducible exact HLe.out _ _))
    go_wp2
    go_ret2
    exact ⟨a, b, s, rfl, .inl ⟨rfl, rfl⟩, by omega, HB.out.drewN _⟩
  · rw [hl] at HLe
    clear hl
    go_enter Tryd.func109, Tryd.ntmps109
    go_wp2
    go_quiet ((go_at_call 80; with_reducible exact HLe.out _ _))
    go_wp2
    go_ret2
    exact ⟨b, a, s + 1, rfl, .inr ⟨rfl, rfl⟩, by omega, by have := (HB.out.drewN nq).set (s + 1); rw [show ((s + 1 : Nat) : Int) = (s : Int) + 1 by omega] at this; exact this⟩
set_option maxRecDepth 100000 in
set_option maxHeartbeats 2000000 in
theorem median_any (cap a b c bx s N : Nat) (d : Array Int) (w : World) (hR : Rw hd tl blk off w d) (hN : d.size = N) (hB : Bk bx s w w) (hne : blk ≠ bx) (ha : a < N) (hb : b < N) (hc : c < N) (hs : s ≤ 900) (hsz : N ≤ 1000000) :
    Calls Tryd.prog 100 #[.slice (some ⟨blk, off, none⟩) N cap, .int .i64 (a : Int), .int .i64 (b : Int), .int .i64 (c : Int), .pointer (some ⟨bx, 0, none⟩)] w (One3 a b c bx s w) := by
  have KO : Hid (∀ (a b s : Nat) (w' : World), Bk bx s w w' → a < N → b < N → s ≤ 1000 → Calls Tryd.prog 109 #[.slice (some ⟨blk, off, none⟩) N cap, .int .i64 (a : Int), .int .i64 (b : Int), .pointer (some ⟨bx, 0, none⟩)] w' (Two a b bx s w')) :=
    Lib.hid fun a b s w' hb h1 h2 h3 => order2_any cap a b bx s N d w' (hb.row hR hne) hN (Bk.refl hb.own) h1 h2 h3 hsz
  have HB := Lib.hid hB; clear hB hR
  go_enter Tryd.func100, Tryd.ntmps100
  go_wp2_with fail
  with_reducible refine (KO.out a b s w HB.out ha hb (by omega)).mono ?_
  rintro e w1 ⟨x1, y1, t1, rfl, h1, ht1, hb1⟩
  have HB1 := Lib.hid (HB.out.trans hb1); clear hb1
  have H1 := Lib.hid h1
  have hx1 : x1 < N := by omega
  have hy1 : y1 < N := by omega
  clear h1
  go_wp2_with fail
  with_reducible refine (KO.out y1 c t1 w1 HB1.out hy1 hc (by omega)).mono ?_
  rintro e w2 ⟨x2, y2, t2, rfl, h2, ht2, hb2⟩
  have HB2 := Lib.hid (HB1.out.trans hb2); clear hb2
  have H2 := Lib.hid h2
  have hx2 : x2 < N := by omega
  clear h2
  go_wp2_with fail
  with_reducible refine (KO.out x1 x2 t2 w2 HB2.out hx1 hx2 (by omega)).mono ?_
  rintro e w3 ⟨x3, y3, t3, rfl, h3, ht3, hb3⟩
  have HB3 := Lib.hid (HB2.out.trans hb3); clear hb3
  have H3 := Lib.hid h3; clear h3
  go_wp2_with fail
  go_ret
  exact ⟨y3, t3, rfl, by have := H1.out; have := H2.out; have := H3.out; omega, by omega, HB3.out⟩
set_option maxRecDepth 100000 in
set_option maxHeartbeats 2000000 in
theorem adj_any (cap a bx s N : Nat) (d : Array Int) (w : World) (hR : Rw hd tl blk off w d) (hN : d.size = N) (hB : Bk bx s w w) (hne : blk ≠ bx) (ha : 1 ≤ a) (hb : a + 1 < N) (hs : s ≤ 900) (hsz : N ≤ 1000000) :
    Calls Tryd.prog 99 #[.slice (some ⟨blk, off, none⟩) N cap, .int .i64 (a : Int), .pointer (some ⟨bx, 0, none⟩)] w (One3 (a - 1) a (a + 1) bx s w) := by
  have K := Lib.hid (median_any cap (a - 1) a (a + 1) bx s N d w hR hN hB hne (by omega) (by omega) (by omega) hs hsz)
  rw [show (((a - 1 : Nat) : Int)) = (a : Int) - 1 by omega, show (((a + 1 : Nat) : Int)) = (a : Int) + 1 by omega] at K
  clear hR hB
  go_enter Tryd.func99, Tryd.ntmps99
  go_wp2_with fail
  with_reducible refine K.out.mono ?_
  rintro e w1 ⟨x1, t1, rfl, h1, ht1, hb1⟩
  have H1 := Lib.hid h1; clear h1
  have HB1 := Lib.hid hb1; clear hb1
  go_wp2_with fail
  go_ret
  exact ⟨x1, t1, rfl, H1.out, ht1, HB1.out⟩
end Go.Proofs.YthgabbkpjffdnaaDoor.S64
set_option linter.unusedSimpArgs false
namespace Go.Proofs.YthgabbkpjffdnaaDoor.S64
open Go.RowKit Go.Sort
variable {hd tl : List Value} {blk off : Nat}
/-- A place of the range, and a hint; the row is as it was. -/
def Picks (hd tl : List Value) (blk off a b : Nat) (d : Array Int) (w : World) (e : Ending) (w' : World) : Prop := ∃ p h : Nat, e = .returned (.tuple #[.int .i64 (p : Int), .int .i64 (h : Int)]) ∧ a ≤ p ∧ p < b ∧ h ≤ 2 ∧ Pt hd tl blk off d w w'
theorem Bk.pt {bx s : Nat} {w w0 w' : World} {d : Array Int} (hb : Below w.heap.size w w0) (h : Bk bx s w0 w') (hR : Rw hd tl blk off w d) (hx : w.heap.size ≤ bx) : Pt hd tl blk off d w w' := by
  have hlt := hR.lt
  refine ⟨h.os.trans hb.os, h.tape.trans hb.tape, h.output.trans hb.output, Nat.le_trans hb.size h.size, fun k hk _ => (h.block k (Nat.lt_of_lt_of_le hk hb.size) (by omega)).trans (hb.block k hk), ⟨hR.len, (h.block blk (Nat.lt_of_lt_of_le hlt hb.size) (by omega)).trans ((hb.block blk hlt).trans hR.own)⟩⟩
set_option maxRecDepth 100000 in
set_option maxHeartbeats 4000000 in
theorem choose_any (cap a b N : Nat) (d : Array Int) (w : World) (hR : Rw hd tl blk off w d) (hN : d.size = N) (hl : a + 12 < b) (hb : b ≤ N) (hsz : N ≤ 1000000) :
    Calls Tryd.prog 77 #[.slice (some ⟨blk, off, none⟩) N cap, .int .i64 (a : Int), .int .i64 (b : Int)] w (Picks hd tl blk off a b d w) := by
  obtain ⟨W0, hW0⟩ : ∃ W0, w.alloc (.cells #[.int .i64 0] 3) = W0 := ⟨_, rfl⟩
  have hb0 : Below w.heap.size w W0 := hW0 ▸ (Below.refl _ w).alloc (Nat.le_refl _) _
  have hB0 : Bk w.heap.size 0 W0 W0 := Bk.refl (hW0 ▸ heap_alloc_new w _)
  have hR0 : Rw hd tl blk off W0 d := hR.below hb0
  have hne : blk ≠ w.heap.size := by have := hR.lt; omega
  have HPT : Hid (∀ s w', Bk w.heap.size s W0 w' → Pt hd tl blk off d w w') := Lib.hid fun s w' h => Bk.pt hb0 h hR (Nat.le_refl _)
  have KM : Hid (∀ (a b c s : Nat) (w' : World), Bk w.heap.size s W0 w' → a < N → b < N → c < N → s ≤ 900 → Calls Tryd.prog 100 #[.slice (some ⟨blk, off, none⟩) N cap, .int .i64 (a : Int), .int .i64 (b : Int), .int .i64 (c : Int), .pointer (some ⟨w.heap.size, 0, none⟩)] w' (One3 a b c w.heap.size s w')) :=
    Lib.hid fun a b c s w' h h1 h2 h3 h4 => median_any cap a b c w.heap.size s N d w' (h.row hR0 hne) hN (Bk.refl h.own) hne h1 h2 h3 h4 hsz
  have KA : Hid (∀ (a s : Nat) (w' : World), Bk w.heap.size s W0 w' → 1 ≤ a → a + 1 < N → s ≤ 900 → Calls Tryd.prog 99 #[.slice (some ⟨blk, off, none⟩) N cap, .int .i64 (a : Int), .pointer (some ⟨w.heap.size, 0, none⟩)] w' (One3 (a - 1) a (a + 1) w.heap.size s w')) :=
    Lib.hid fun a s w' h h1 h2 h4 => adj_any cap a w.heap.size s N d w' (h.row hR0 hne) hN (Bk.refl h.own) hne h1 h2 h4 hsz
  have HB0 := Lib.hid hB0; clear hB0 hb0 hR0 hne hR hN
  have HW0 := Lib.hid hW0; clear hW0
  obtain ⟨l, hl'⟩ : ∃ l, l = b - a := ⟨_, rfl⟩
  obtain ⟨q, hq⟩ : ∃ q, q = l / 4 := ⟨_, rfl⟩
  obtain ⟨i, hi⟩ : ∃ i, i = a + q := ⟨_, rfl⟩
  obtain ⟨j, hj⟩ : ∃ j, j = a + q * 2 := ⟨_, rfl⟩
  obtain ⟨k, hk⟩ : ∃ k, k = a + q * 3 := ⟨_, rfl⟩
  have hl12 : 12 < l := by omega
  have hi1 : a + 1 ≤ i ∧ i + 1 < b := by omega
  have hj1 : a + 1 ≤ j ∧ j + 1 < b := by omega
  have hk1 : a + 1 ≤ k ∧ k + 1 < b := by omega
  have e0 : (b : Int) - (a : Int) = (l : Int) := by omega
  have e1 : (l : Int) / 4 = (q : Int) := by omega
  have e2 : (a : Int) + (q : Int) = (i : Int) := by omega
  have e3 : (a : Int) + (q : Int) * 2 = (j : Int) := by omega
  have e4 : (a : Int) + (q : Int) * 3 = (k : Int) := by omega
  have h8 : (8 : Int) ≤ (l : Int) := by omega
  have hl6 : l ≤ 1000000 := by omega
  have hq6 : q ≤ 1000000 := by omega
  obtain ⟨hi1, hi2⟩ := hi1
  obtain ⟨hj1, hj2⟩ := hj1
  obtain ⟨hk1, hk2⟩ := hk1
  clear hl' hq hi hj hk hl
  go_enter Tryd.func77, Tryd.ntmps77
  go_upto_if 32 with (fail)
  rw [HW0.out]
  clear e0 e1 e2 e3 e4
  go_cut [10, 11, 12] (fun _ vj _ wx => ∃ p t : Nat, vj = .int .i64 (p : Int) ∧ (a ≤ p ∧ p < b ∧ t ≤ 12) ∧ Bk w.heap.size t W0 wx)
  case first =>
    by_cases h50 : 50 ≤ l
    · have h50Z : (50 : Int) ≤ (l : Int) := by omega
      go_wp2_with fail
      with_reducible refine (KA.out i 0 W0 HB0.out (by omega) (by omega) (by omega)).mono ?_
      rintro e w1 ⟨x1, t1, rfl, h1, ht1, hb1⟩
      have HB1 := Lib.hid (HB0.out.trans hb1); clear hb1
      have hx1 : a ≤ x1 := by omega
      have hx1' : x1 < b := by omega
      clear h1
      go_wp2_with fail
      with_reducible refine (KA.out j t1 w1 HB1.out (by omega) (by omega) (by omega)).mono ?_
      rintro e w2 ⟨x2, t2, rfl, h2, ht2, hb2⟩
      have HB2 := Lib.hid (HB1.out.trans hb2); clear hb2
      have hx2 : a ≤ x2 := by omega
      have hx2' : x2 < b := by omega
      clear h2
      go_wp2_with fail
      with_reducible refine (KA.out k t2 w2 HB2.out (by omega) (by omega) (by omega)).mono ?_
      rintro e w3 ⟨x3, t3, rfl, h3, ht3, hb3⟩
      have HB3 := Lib.hid (HB2.out.trans hb3); clear hb3
      have hx3 : a ≤ x3 := by omega
      have hx3' : x3 < b := by omega
      clear h3
      go_wp2_with fail
      with_reducible refine (KM.out x1 x2 x3 t3 w3 HB3.out (by omega) (by omega) (by omega) (by omega)).mono ?_
      rintro e w4 ⟨x4, t4, rfl, h4, ht4, hb4⟩
      have HB4 := Lib.hid (HB3.out.trans hb4); clear hb4
      have H4 := Lib.hid h4; clear h4
      go_wp2_with fail
      go_meet
      case rel => exact ⟨x4, t4, rfl, ⟨by have := H4.out; omega, by have := H4.out; omega, by omega⟩, HB4.out⟩
    · have h50B : decide ((50 : Int) ≤ (l : Int)) = false := by simp; omega
      go_wp2_with fail
      with_reducible refine (KM.out i j k 0 W0 HB0.out (by omega) (by omega) (by omega) (by omega)).mono ?_
      rintro e w4 ⟨x4, t4, rfl, h4, ht4, hb4⟩
      have HB4 := Lib.hid (HB0.out.trans hb4); clear hb4
      have H4 := Lib.hid h4; clear h4
      go_wp2_with fail
      go_meet
      case rel => exact ⟨x4, t4, rfl, ⟨by have := H4.out; omega, by have := H4.out; omega, by omega⟩, HB4.out⟩
  case rest =>
    obtain ⟨p, t, rfl, ⟨hp1, hp2, ht⟩, hbx⟩ := hcut
    have hc := hbx.cell
    have HBX := Lib.hid hbx; clear hbx
    clear KA KM
    by_cases ht0 : t = 0
    · have hb0 : ((t : Int) == 0) = true := by simp; omega
      clear ht0
      go_wp2
      go_ret2
      exact ⟨p, 1, rfl, hp1, hp2, by omega, HPT.out _ _ HBX.out⟩
    · have hb0 : ((t : Int) == 0) = false := by simp; omega
      clear ht0
      by_cases ht12 : t = 12
      · have hb12 : ((t : Int) == 12) = true := by simp; omega
        clear ht12
        go_wp2
        go_ret2
        exact ⟨p, 2, rfl, hp1, hp2, by omega, HPT.out _ _ HBX.out⟩
      · have hb12 : ((t : Int) == 12) = false := by simp; omega
        clear ht12
        go_wp2
        go_ret2
        exact ⟨p, 0, rfl, hp1, hp2, by omega, HPT.out _ _ HBX.out⟩
end Go.Proofs.YthgabbkpjffdnaaDoor.S64
set_option linter.unusedSimpArgs false
namespace Go.Proofs.YthgabbkpjffdnaaDoor.S64
open Go.RowKit Go.Sort
variable {hd tl : List Value} {blk off : Nat}
/-- A word in a box of its own; nothing else turns. -/
structure Bw (bx : Nat) (r : Int) (w w' : World) : Prop where
  os : w'.os = w.os
  tape : w'.tape = w.tape
  output : w'.output = w.output
  size : w.heap.size ≤ w'.heap.size
  block : ∀ k, k < w.heap.size → k ≠ bx → w'.heap[k]? = w.heap[k]?
  own : w'.heap[bx]? = some (.cells #[.int .u64 r] 128 (0, 0))
theorem Bw.refl {bx : Nat} {r : Int} {w : World} (h : w.heap[bx]? = some (.cells #[.int .u64 r] 128 (0, 0))) : Bw bx r w w := ⟨rfl, rfl, rfl, Nat.le_refl _, fun _ _ _ => rfl, h⟩
theorem Bw.drew {bx : Nat} {r : Int} {w w' : World} (h : Bw bx r w w') : Bw bx r w w'.drew := ⟨h.os, h.tape, h.output, h.size, h.block, h.own⟩
theorem Bw.cell {bx : Nat} {r : Int} {w w' : World} (h : Bw bx r w w') : w'.cell? ⟨bx, 0, none⟩ = some (.int .u64 r) := by simp [World.cell?, h.own]
theorem Bw.frozen {bx : Nat} {r : Int} {w w' : World} (h : Bw bx r w w') : w'.frozen? ⟨bx, 0, none⟩ = false := by simp [World.frozen?, h.own]
theorem Bw.set {bx : Nat} {r : Int} {w w' : World} (h : Bw bx r w w') (t : Int) : Bw bx t w (w'.setCell ⟨bx, 0, none⟩ (.int .u64 t)) :=
  ⟨h.os, h.tape, h.output, by simpa [World.setCell] using h.size, fun k hk hb => (Below.heap_setCell _ _ _ _ hb).trans (h.block k hk hb), by rw [heap_setc h.own]; rfl⟩
/-- Some word, which is in the box then. -/
def Nexts (bx : Nat) (w : World) (e : Ending) (w' : World) : Prop := ∃ t : Int, e = .returned (.int .u64 t) ∧ (Lit.int .u64 t).wf = true ∧ Bw bx t w w'
set_option maxRecDepth 100000 in
set_option maxHeartbeats 2000000 in
theorem next_any (bx : Nat) (r : Int) (w : World) (hB : Bw bx r w w) :
    Calls Tryd.prog 98 #[.pointer (some ⟨bx, 0, none⟩)] w (Nexts bx w) := by
  have hc := hB.cell
  have hf := hB.frozen
  have HB := Lib.hid hB; clear hB
  go_enter Tryd.func98, Tryd.ntmps98
  go_upto_region 1 with (fail)
  go_region
  obtain ⟨r1, hr1⟩ : ∃ r1, r1 = bits BinOp.xor IntKind.u64 r (IntKind.u64.wrap (r * 8192)) := ⟨_, rfl⟩
  rw [← hr1]
  clear hr1
  have hb1 := (HB.out.set r1).drew
  generalize (w.setCell ⟨bx, 0, none⟩ (.int .u64 r1)).drew = w1 at hb1 ⊢
  have hc1 := hb1.cell
  have hf1 := hb1.frozen
  have HB1 := Lib.hid hb1; clear hb1 hc hf
  go_upto_region 2 with (fail)
  go_region
  obtain ⟨r2, hr2⟩ : ∃ r2, r2 = bits BinOp.xor IntKind.u64 r1 (r1 / 128) := ⟨_, rfl⟩
  rw [← hr2]
  clear hr2
  have hb2 := (HB1.out.set r2).drew
  generalize (w1.setCell ⟨bx, 0, none⟩ (.int .u64 r2)).drew = w2 at hb2 ⊢
  have hc2 := hb2.cell
  have hf2 := hb2.frozen
  have HB2 := Lib.hid hb2; clear hb2 hc1 hf1
  go_upto_region 3 with (fail)
  go_region
  obtain ⟨r3, hr3⟩ : ∃ r3, r3 = bits BinOp.xor IntKind.u64 r2 (IntKind.u64.wrap (r2 * 131072)) := ⟨_, rfl⟩
  have hw3 : (Lit.int .u64 r3).wf = true := hr3 ▸ wf_bits _ _ _ _
  rw [← hr3]
  clear hr3
  have hb3 := (HB2.out.set r3).drew
  generalize (w2.setCell ⟨bx, 0, none⟩ (.int .u64 r3)).drew = w3 at hb3 ⊢
  have hc3 := hb3.cell
  have HB3 := Lib.hid hb3; clear hb3 hc2 hf2
  have HW3 := Lib.hid hw3; clear hw3
  go_wp2
  go_ret
  exact ⟨r3, rfl, HW3.out, HB3.out⟩
theorem aux_le : ∀ (f x : Nat), 0 < x → 2 ^ Lib.bitLenAux f x ≤ 2 * x
  | 0, x, h => by simp [Lib.bitLenAux]; omega
  | f + 1, x, h => by
    rw [Lib.bitLenAux, if_neg (by omega), Nat.pow_add]
    by_cases hx : x / 2 = 0
    · rw [hx]
      have : Lib.bitLenAux f 0 = 0 := by cases f <;> simp [Lib.bitLenAux]
      rw [this]
      omega
    · have := aux_le f (x / 2) (by omega)
      omega
theorem bit_le (n : Nat) (h : 0 < n) : 2 ^ Lib.bitLen n ≤ 2 * n := aux_le 64 n h
theorem bit20 (n : Nat) (h : n ≤ 1000000) : 2 ^ Lib.bitLen n ≤ 2000001 := by
  by_cases h0 : n = 0
  · subst h0; decide
  · have := bit_le n (by omega)
    omega
set_option maxRecDepth 100000 in
set_option maxHeartbeats 2000000 in
theorem pow_any (n : Nat) (h : n ≤ 1000000) (w : World) :
    Calls Tryd.prog 97 #[.int .i64 (n : Int)] w (Same (.int .u64 ((2 ^ Lib.bitLen n : Nat) : Int)) w) := by
  have K := Lib.hid (Tryd.bits_Len (n : Int) w (by omega) (by omega))
  rw [Int.toNat_natCast] at K
  obtain ⟨k, hk⟩ : ∃ k, k = Lib.bitLen n := ⟨_, rfl⟩
  rw [← hk] at K
  have Hk := Lib.hid hk; clear hk
  go_enter Tryd.func97, Tryd.ntmps97
  go_wp2_with fail
  with_reducible refine K.out.mono ?_
  rintro e w1 ⟨rfl, rfl⟩
  go_wp2_with fail
  go_ret
  have hk20 := bit20 n h
  rw [← Hk.out] at hk20
  have hk64 : k ≤ 64 := by
    apply Nat.le_of_not_lt
    intro hlt
    have := Nat.pow_le_pow_right (show 0 < 2 by omega) (show 21 ≤ k by omega)
    omega
  have e : IntKind.u64.wrap ((2 : Int) ^ min k 64) = ((2 ^ k : Nat) : Int) := by
    rw [Nat.min_eq_left hk64, IntWalk.u64_in]
    · rw [Int.natCast_pow]; rfl
    · rw [show (2 : Int) ^ k = ((2 ^ k : Nat) : Int) by rw [Int.natCast_pow]; rfl]
      generalize 2 ^ k = m at hk20
      omega
  refine ⟨?_, rfl⟩
  show Ending.returned (Value.int .u64 (IntKind.u64.wrap ((2 : Int) ^ min k 64))) = _
  rw [e, Hk.out]
theorem Pt.next {d : Array Int} {bx : Nat} {t : Int} {w w' w'' : World} (h : Pt hd tl blk off d w w') (hb : Bw bx t w' w'') (hx : w.heap.size ≤ bx) (hl : blk < w.heap.size) : Pt hd tl blk off d w w'' :=
  ⟨hb.os.trans h.os, hb.tape.trans h.tape, hb.output.trans h.output, Nat.le_trans h.size hb.size, fun k hk hn => (hb.block k (Nat.lt_of_lt_of_le hk h.size) (by omega)).trans (h.block k hk hn), ⟨h.row.len, (hb.block blk h.row.lt (by omega)).trans h.row.own⟩⟩
/-- The range is permuted. -/
def Perms (hd tl : List Value) (blk off a b : Nat) (d : Array Int) (w : World) (e : Ending) (w' : World) : Prop := e = .returned (.tuple #[]) ∧ ∃ d', PermIn a b d d' ∧ Pt hd tl blk off d' w w'
/-- The last bits of a word. -/
theorem and_low (t : Int) (M : Nat) (ht : (Lit.int .u64 t).wf = true) (h1 : 1 ≤ M) (h2 : M ≤ 2000001) : ∃ o : Nat, bits .and .u64 t ((M : Int) - 1) = (o : Int) ∧ o < M := by
  have hb := bounds_u64 ht
  obtain ⟨n, rfl⟩ := Int.eq_ofNat_of_zero_le hb.1
  refine ⟨n &&& (M - 1), ?_, ?_⟩
  · rw [show (M : Int) - 1 = ((M - 1 : Nat) : Int) by omega]
    exact bits_and_u64_nat n (M - 1) (by omega) (by omega)
  · have := Nat.and_le_right (n := n) (m := M - 1)
    omega
set_option maxRecDepth 100000 in
set_option maxHeartbeats 4000000 in
theorem break_any (cap a b N : Nat) (d : Array Int) (w : World) (hR : Rw hd tl blk off w d) (hN : d.size = N) (hl : a + 12 < b) (hb : b ≤ N) (hsz : N ≤ 1000000) :
    Calls Tryd.prog 76 #[.slice (some ⟨blk, off, none⟩) N cap, .int .i64 (a : Int), .int .i64 (b : Int)] w (Perms hd tl blk off a b d w) := by
  obtain ⟨l, hl'⟩ : ∃ l, l = b - a := ⟨_, rfl⟩
  obtain ⟨q, hq⟩ : ∃ q, q = l / 4 := ⟨_, rfl⟩
  obtain ⟨c, hc⟩ : ∃ c, c + 1 = a + q * 2 := ⟨a + q * 2 - 1, by omega⟩
  have KP := Lib.hid (pow_any l (by omega))
  have hM1 := bit_le l (by omega)
  have hM2 := bit20 l (by omega)
  have hM0 : 0 < 2 ^ Lib.bitLen l := Nat.pow_pos (by omega)
  obtain ⟨M, hM⟩ : ∃ M, M = 2 ^ Lib.bitLen l := ⟨_, rfl⟩
  rw [← hM] at KP hM1 hM2 hM0
  clear hM
  have hblk := hR.lt
  obtain ⟨W0, hW0⟩ : ∃ W0, w.alloc (.cells #[.int .u64 (l : Int)] 128) = W0 := ⟨_, rfl⟩
  have hb0 : Below w.heap.size w W0 := hW0 ▸ (Below.refl _ w).alloc (Nat.le_refl _) _
  have ho0 : W0.heap[w.heap.size]? = some (.cells #[.int .u64 (l : Int)] 128 (0, 0)) := hW0 ▸ heap_alloc_new w _
  have hP0 : Pt hd tl blk off d w W0 := hR.refl.below hb0
  have HP0 := Lib.hid hP0; clear hP0 hR hb0
  have HO0 := Lib.hid ho0; clear ho0
  have HW0 := Lib.hid hW0; clear hW0
  have HN := Lib.hid hN; clear hN
  have hl12 : 12 < l := by omega
  have hca : a ≤ c := by omega
  have hcb : c + 2 < b := by omega
  have e0 : (b : Int) - (a : Int) = (l : Int) := by omega
  have e1 : (l : Int) / 4 = (q : Int) := by omega
  have e2 : (a : Int) + (q : Int) * 2 = (c : Int) + 1 := by omega
  have h8 : (8 : Int) ≤ (l : Int) := by omega
  have hl6 : l ≤ 1000000 := by omega
  have hq6 : q ≤ 1000000 := by omega
  have Hl := Lib.hid hl'
  clear hl' hq hc
  have KX := Lib.hid next_any
  go_enter Tryd.func76, Tryd.ntmps76
  go_wp2_with fail
  rw [HW0.out]
  with_reducible refine (KP.out W0).mono ?_
  rintro e w1 ⟨rfl, rfl⟩
  go_wp2_with fail
  go_loopg [9] 3 (fun k vi wr => ∃ (i : Nat) (r : Int) (dk : Array Int), vi = .int .i64 (i : Int) ∧ k = c + 3 - i ∧ (c ≤ i ∧ i ≤ c + 3) ∧ dk.size = N ∧ PermIn a b d dk ∧ Pt hd tl blk off dk w wr ∧ wr.heap[w.heap.size]? = some (.cells #[.int .u64 r] 128 (0, 0)))
  case atStart => exact ⟨c, l, d, by go_num, by omega, ⟨by omega, by omega⟩, HN.out, permIn_refl _ _ _, HP0.out, HO0.out⟩
  case round =>
    obtain ⟨i, r, dk, rfl, rfl, ⟨hi1, hi2⟩, hsk, hperm, hpk, hown⟩ := hrel
    have HSk := Lib.hid hsk; clear hsk
    have HPerm := Lib.hid hperm; clear hperm
    have HPk := Lib.hid hpk; clear hpk
    have HOwn := Lib.hid hown; clear hown
    by_cases hic : i ≤ c + 2
    · have hicZ : (i : Int) ≤ (c : Int) + 1 + 1 := by omega
      have hicZ2 : (i : Int) ≤ (c : Int) + 2 := by omega
      go_wp2_with fail
      with_reducible refine (KX.out _ r wr (Bw.refl HOwn.out)).mono ?_
      rintro e w2 ⟨t, rfl, hwf, hbw⟩
      have HP2 := Lib.hid (HPk.out.next hbw (Nat.le_refl _) hblk)
      have HOwn2 := Lib.hid hbw.own
      clear hbw
      obtain ⟨o, eo, ho⟩ := and_low t M hwf hM0 hM2
      clear hwf
      have eM : IntKind.u64.wrap ((M : Int) - 1) = (M : Int) - 1 := IntWalk.u64_in _ (by omega)
      obtain ⟨G, hG⟩ : ∃ G : Nat → Int, ∀ t, G t = dk[t]! := ⟨fun t => dk[t]!, fun _ => rfl⟩
      have HG := Lib.hid hG; clear hG
      have hiN : i < N := by omega
      have hxb2 : w.heap.size ≠ blk := by omega
      by_cases hol : l ≤ o
      · have holZ : (l : Int) ≤ (o : Int) := by omega
        obtain ⟨o2, ho2⟩ : ∃ o2, o2 = o - l := ⟨_, rfl⟩
        have eo2 : (o : Int) - (l : Int) = (o2 : Int) := by omega
        obtain ⟨x, hx⟩ : ∃ x, x = a + o2 := ⟨_, rfl⟩
        have ex : (a : Int) + (o2 : Int) = (x : Int) := by omega
        have exw : IntKind.i64.wrap ((a : Int) + (o2 : Int)) = (x : Int) := by rw [ex]; exact IntWalk.i64_in _ (by have := Hl.out; omega)
        have hxa : a ≤ x := by omega
        have hxb : x < b := by have := Hl.out; omega
        clear ho2 hx
        have hcw : ∀ t, t < N → w2.cell? ⟨blk, off + t, none⟩ = some (.int .u64 (G t)) := fun t ht => by rw [HG.out]; exact HP2.out.row.cell (by rw [HSk.out]; exact ht)
        have hfw : ∀ t, t < N → w2.frozen? ⟨blk, off + t, none⟩ = false := fun t _ => HP2.out.row.frozen t
        have hcs := HP2.out.cell_swap (i := i) (j := x) (by rw [HSk.out]; omega) (by rw [HSk.out]; omega)
        rw [← HG.out] at hcs
        have hjN : x < N := by omega
        go_upto_region 10 with (fail)
        go_region
        have hnew := (HP2.out.swap (i := i) (j := x) (by rw [HSk.out]; omega) (by rw [HSk.out]; omega)).drew
        rw [← HG.out, ← HG.out] at hnew
        clear hcs hcw hfw
        have hown3 : (((w2.setCell ⟨blk, off + i, none⟩ (.int .u64 (G x))).setCell ⟨blk, off + x, none⟩ (.int .u64 (G i))).drew).heap[w.heap.size]? = some (.cells #[.int .u64 t] 128 (0, 0)) := ((Below.heap_setCell _ _ _ _ hxb2).trans (Below.heap_setCell _ _ _ _ hxb2)).trans HOwn2.out
        generalize ((w2.setCell ⟨blk, off + i, none⟩ (.int .u64 (G x))).setCell ⟨blk, off + x, none⟩ (.int .u64 (G i))).drew = W3 at hnew hown3 ⊢
        have HP3 := Lib.hid hnew; clear hnew
        have HOwn3 := Lib.hid hown3; clear hown3
        go_wp2
        go_roundg (c + 3 - (i + 1))
        case measure => clear ex exw eM eo; omega
        case rel => exact ⟨i + 1, t, swp dk i x, by go_num, rfl, ⟨by clear ex exw eM eo; omega, by clear ex exw eM eo; omega⟩, by rw [size_swp]; exact HSk.out, permIn_trans _ _ _ _ _ HPerm.out (swp_permIn dk a b i x (by clear ex exw eM eo; omega) (by clear ex exw eM eo; omega) hxa hxb (by rw [HSk.out]; exact hb)), HP3.out, HOwn3.out⟩
      · have holB : decide ((l : Int) ≤ (o : Int)) = false := by simp; omega
        obtain ⟨x, hx⟩ : ∃ x, x = a + o := ⟨_, rfl⟩
        have ex : (a : Int) + (o : Int) = (x : Int) := by omega
        have exw : IntKind.i64.wrap ((a : Int) + (o : Int)) = (x : Int) := by rw [ex]; exact IntWalk.i64_in _ (by have := Hl.out; omega)
        have hxa : a ≤ x := by omega
        have hxb : x < b := by have := Hl.out; omega
        clear hx
        have hcw : ∀ t, t < N → w2.cell? ⟨blk, off + t, none⟩ = some (.int .u64 (G t)) := fun t ht => by rw [HG.out]; exact HP2.out.row.cell (by rw [HSk.out]; exact ht)
        have hfw : ∀ t, t < N → w2.frozen? ⟨blk, off + t, none⟩ = false := fun t _ => HP2.out.row.frozen t
        have hcs := HP2.out.cell_swap (i := i) (j := x) (by rw [HSk.out]; omega) (by rw [HSk.out]; omega)
        rw [← HG.out] at hcs
        have hjN : x < N := by omega
        go_upto_region 10 with (fail)
        go_region
        have hnew := (HP2.out.swap (i := i) (j := x) (by rw [HSk.out]; omega) (by rw [HSk.out]; omega)).drew
        rw [← HG.out, ← HG.out] at hnew
        clear hcs hcw hfw
        have hown3 : (((w2.setCell ⟨blk, off + i, none⟩ (.int .u64 (G x))).setCell ⟨blk, off + x, none⟩ (.int .u64 (G i))).drew).heap[w.heap.size]? = some (.cells #[.int .u64 t] 128 (0, 0)) := ((Below.heap_setCell _ _ _ _ hxb2).trans (Below.heap_setCell _ _ _ _ hxb2)).trans HOwn2.out
        generalize ((w2.setCell ⟨blk, off + i, none⟩ (.int .u64 (G x))).setCell ⟨blk, off + x, none⟩ (.int .u64 (G i))).drew = W3 at hnew hown3 ⊢
        have HP3 := Lib.hid hnew; clear hnew
        have HOwn3 := Lib.hid hown3; clear hown3
        go_wp2
        go_roundg (c + 3 - (i + 1))
        case measure => clear ex exw eM eo; omega
        case rel => exact ⟨i + 1, t, swp dk i x, by go_num, rfl, ⟨by clear ex exw eM eo; omega, by clear ex exw eM eo; omega⟩, by rw [size_swp]; exact HSk.out, permIn_trans _ _ _ _ _ HPerm.out (swp_permIn dk a b i x (by clear ex exw eM eo; omega) (by clear ex exw eM eo; omega) hxa hxb (by rw [HSk.out]; exact hb)), HP3.out, HOwn3.out⟩
    · have hicB : decide ((i : Int) ≤ (c : Int) + 1 + 1) = false := by simp; omega
      have hicB2 : decide ((i : Int) ≤ (c : Int) + 2) = false := by simp; omega
      go_wp2
      go_end0
      exact ⟨rfl, dk, HPerm.out, HPk.out⟩
end Go.Proofs.YthgabbkpjffdnaaDoor.S64
set_option linter.unusedSimpArgs false
namespace Go.Proofs.YthgabbkpjffdnaaDoor.S64
open Go.RowKit Go.Sort
variable {hd tl : List Value} {blk off : Nat}
/-- What the loop keeps: the part that is left, once it is sorted, makes the whole sorted. -/
structure Inv (N a b a' b' : Nat) (d dk : Array Int) : Prop where
  size : dk.size = N
  below : Go.Sort.Below ltInt a' b' dk
  glue : ∀ R, PermIn a' b' dk R → SortedIn ltInt a' b' R → PermIn a b d R ∧ SortedIn ltInt a b R
theorem Inv.perm {N a b a' b' : Nat} {d dk d1 : Array Int} (h : Inv N a b a' b' d dk) (hb : b' ≤ N) (hp : PermIn a' b' dk d1) : Inv N a b a' b' d d1 :=
  ⟨hp.1.trans h.size, h.below.perm (by rw [h.size]; exact hb) hp, fun R h1 h2 => h.glue R (permIn_trans _ _ _ _ _ hp h1) h2⟩
/-- The range comes out sorted. -/
def Sorts (hd tl : List Value) (blk off a b : Nat) (d : Array Int) (w : World) (e : Ending) (w' : World) : Prop := e = .returned (.tuple #[]) ∧ ∃ d', PermIn a b d d' ∧ SortedIn ltInt a b d' ∧ Pt hd tl blk off d' w w'
theorem part_b (cap a b pv N : Nat) (d : Array Int) (w : World) (hR : Rw hd tl blk off w d) (hN : d.size = N) (hpa : a ≤ pv) (hpb : pv < b) (hb : b ≤ N) (hsz : N ≤ 1000000) :
    Calls Tryd.prog 82 #[.slice (some ⟨blk, off, none⟩) N cap, .int .i64 (a : Int), .int .i64 (b : Int), .int .i64 (pv : Int)] w (Parts hd tl blk off (partition ltInt d a b pv) w) := by
  obtain ⟨b, rfl⟩ : ∃ b0, b = b0 + 1 := ⟨b - 1, by omega⟩
  exact part_any cap a b pv N d w hR hN hpa (by omega) (by omega) hsz
theorem parteq_b (cap a b pv N : Nat) (d : Array Int) (w : World) (hR : Rw hd tl blk off w d) (hN : d.size = N) (hpa : a ≤ pv) (hpb : pv < b) (hb : b ≤ N) (hsz : N ≤ 1000000) :
    Calls Tryd.prog 81 #[.slice (some ⟨blk, off, none⟩) N cap, .int .i64 (a : Int), .int .i64 (b : Int), .int .i64 (pv : Int)] w (Part1 hd tl blk off (partitionEqual ltInt d a b pv) w) := by
  obtain ⟨b, rfl⟩ : ∃ b0, b = b0 + 1 := ⟨b - 1, by omega⟩
  exact parteq_any cap a b pv N d w hR hN hpa (by omega) (by omega) hsz
theorem heap_b (cap a b N : Nat) (d : Array Int) (w : World) (hR : Rw hd tl blk off w d) (hN : d.size = N) (hab : a < b) (hb : b ≤ N) (hsz : N ≤ 1000000) :
    Calls Tryd.prog 75 #[.slice (some ⟨blk, off, none⟩) N cap, .int .i64 (a : Int), .int .i64 (b : Int)] w (Puts hd tl blk off (heapSort ltInt d a b) w) := by
  obtain ⟨h, rfl⟩ : ∃ h, b = a + (h + 1) := ⟨b - a - 1, by omega⟩
  exact heap_any cap a h N d w hR hN (by omega) hsz
set_option maxRecDepth 100000 in
set_option maxHeartbeats 8000000 in
theorem pdq_any (cap N : Nat) (hsz : N ≤ 1000000) : ∀ (n a b lim : Nat) (d : Array Int) (w : World), b - a ≤ n → a ≤ b → b ≤ N → lim ≤ 1000 → Rw hd tl blk off w d → d.size = N → Go.Sort.Below ltInt a b d →
    Calls Tryd.prog 67 #[.slice (some ⟨blk, off, none⟩) N cap, .int .i64 (a : Int), .int .i64 (b : Int), .int .i64 (lim : Int)] w (Sorts hd tl blk off a b d w) := by
  intro n
  induction n using Nat.strongRecOn with
  | _ n ih =>
  intro a b lim d w hn hab hbN hlim hR hN hBl
  have HIH := Lib.hid ih; clear ih
  have HP0 := Lib.hid hR.refl; clear hR
  have HI0 : Hid (Inv N a b a b d d) := Lib.hid ⟨hN, hBl, fun R h1 h2 => ⟨h1, h2⟩⟩
  clear hN hBl
  have HLe := Lib.hid less_q
  go_enter Tryd.func67, Tryd.ntmps67
  go_wp2_with fail
  go_loopg [1, 2, 3, 8, 9] (b - a) (fun k va vb vl v8 v9 wr => ∃ (a' b' lim' : Nat) (wb wp : Bool) (dk : Array Int), va = .int .i64 (a' : Int) ∧ vb = .int .i64 (b' : Int) ∧ vl = .int .i64 (lim' : Int) ∧ v8 = .bool wb ∧ v9 = .bool wp ∧ k = b' - a' ∧ (a ≤ a' ∧ a' ≤ b' ∧ b' ≤ b ∧ lim' ≤ 1000) ∧ Inv N a b a' b' d dk ∧ Pt hd tl blk off dk w wr)
  case atStart => exact ⟨a, b, lim, true, true, d, rfl, rfl, rfl, rfl, rfl, rfl, ⟨Nat.le_refl _, hab, Nat.le_refl _, hlim⟩, HI0.out, HP0.out⟩
  case round =>
    clear HI0 HP0
    obtain ⟨a', b', lim', wb, wp, dk, rfl, rfl, rfl, rfl, rfl, rfl, ⟨h1, h2, h3, h4⟩, hinv, hpk⟩ := hrel
    have HInv := Lib.hid hinv; clear hinv
    have HPk := Lib.hid hpk; clear hpk
    by_cases h12 : b' - a' ≤ 12
    · have h12Z : (b' : Int) - (a' : Int) ≤ 12 := by omega
      go_wp2_with fail
      with_reducible refine (ins_any cap a' b' N dk wr HPk.out.row HInv.out.size h2 (by omega) hsz).mono ?_
      rintro e w2 ⟨rfl, hp2⟩
      have HP2 := Lib.hid (HPk.out.trans hp2); clear hp2
      go_wp2_with fail
      go_end0
      obtain ⟨i1, i2⟩ := insertionSort_holds swo_ltInt dk a' b' h2 (by rw [HInv.out.size]; omega)
      obtain ⟨g1, g2⟩ := HInv.out.glue _ i1 i2
      exact ⟨rfl, _, g1, g2, HP2.out⟩
    · obtain ⟨l, hl⟩ : ∃ l, l = b' - a' := ⟨_, rfl⟩
      have el : (b' : Int) - (a' : Int) = (l : Int) := by omega
      have hlB : decide ((l : Int) ≤ 12) = false := by simp; omega
      have hab12 : a' + 12 < b' := by omega
      have Hl := Lib.hid hl; clear hl
      by_cases hl0 : lim' = 0
      · have hl0B : ((lim' : Int) == 0) = true := by simp; omega
        go_wp2_with fail
        with_reducible refine (heap_b cap a' b' N dk wr HPk.out.row HInv.out.size (by omega) (by omega) hsz).mono ?_
        rintro e w2 ⟨rfl, hp2⟩
        have HP2 := Lib.hid (HPk.out.trans hp2); clear hp2
        go_wp2_with fail
        go_end0
        obtain ⟨i1, i2⟩ := heapSort_holds swo_ltInt dk a' b' h2 (by rw [HInv.out.size]; omega)
        obtain ⟨g1, g2⟩ := HInv.out.glue _ i1 i2
        exact ⟨rfl, _, g1, g2, HP2.out⟩
      · have hl0B : ((lim' : Int) == 0) = false := by simp; omega
        go_upto_if 35 with (fail)
        go_cut [3] (fun vl wx => ∃ (lm : Nat) (d1 : Array Int), vl = .int .i64 (lm : Int) ∧ lm ≤ 1000 ∧ Inv N a b a' b' d d1 ∧ Pt hd tl blk off d1 w wx)
        case first =>
          cases wb with
          | true =>
            go_wp2_with fail
            go_meet
            case rel => exact ⟨lim', dk, rfl, h4, HInv.out, HPk.out⟩
          | false =>
            go_wp2_with fail
            with_reducible refine (break_any cap a' b' N dk wr HPk.out.row HInv.out.size hab12 (by omega) hsz).mono ?_
            rintro e w2 ⟨rfl, d1, hp1, hp2⟩
            have HI1 := Lib.hid (HInv.out.perm (by omega) hp1)
            have HP2 := Lib.hid (HPk.out.trans hp2); clear hp2 hp1
            go_wp2_with fail
            go_meet
            case rel => exact ⟨lim' - 1, d1, by rw [show ((lim' - 1 : Nat) : Int) = (lim' : Int) - 1 by omega], by omega, HI1.out, HP2.out⟩
        case rest =>
          obtain ⟨lm, d1, rfl, hlm, hi1, hp1⟩ := hcut
          have HI1 := Lib.hid hi1; clear hi1 HInv
          have HP1 := Lib.hid hp1; clear hp1 HPk
          go_wp2_with fail
          with_reducible refine (choose_any cap a' b' N d1 wc HP1.out.row HI1.out.size hab12 (by omega) hsz).mono ?_
          rintro e w2 ⟨p, h, rfl, hpa, hpb, hh, hp2⟩
          have HP2 := Lib.hid (HP1.out.trans hp2); clear hp2 HP1
          go_upto_if 50 with (fail)
          go_cut [11, 12] (fun v11 v12 wx => ∃ (p h : Nat) (d2 : Array Int), v11 = .int .i64 (p : Int) ∧ v12 = .int .i64 (h : Int) ∧ (a' ≤ p ∧ p < b') ∧ Inv N a b a' b' d d2 ∧ Pt hd tl blk off d2 w wx)
          case first =>
            by_cases hh2 : h = 2
            · have hhB : ((h : Int) == 2) = true := by simp; omega
              go_wp2_with fail
              with_reducible refine (rev_any cap a' b' N d1 w2 HP2.out.row HI1.out.size (by omega) (by omega) hsz).mono ?_
              rintro e w3 ⟨rfl, hp3⟩
              have HP3 := Lib.hid (HP2.out.trans hp3); clear hp3
              have HI3 := Lib.hid (HI1.out.perm (by omega) (reverseRange_holds d1 a' b' h2 (by rw [HI1.out.size]; omega)))
              go_wp2_with fail
              go_meet
              case rel => exact ⟨b' - 1 - (p - a'), 1, _, by rw [show ((b' - 1 - (p - a') : Nat) : Int) = (b' : Int) - 1 - ((p : Int) - (a' : Int)) by clear el; omega], rfl, ⟨by clear el; omega, by clear el; omega⟩, HI3.out, HP3.out⟩
            · have hhB : ((h : Int) == 2) = false := by simp; omega
              go_wp2_with fail
              go_meet
              case rel => exact ⟨p, h, d1, rfl, rfl, ⟨hpa, hpb⟩, HI1.out, HP2.out⟩
          case rest =>
            clear hpa hpb hh HI1 HP2
            obtain ⟨p, h, d2, rfl, rfl, ⟨hpa, hpb⟩, hi2, hp2⟩ := hcut
            have HI2 := Lib.hid hi2; clear hi2
            have HP2 := Lib.hid hp2; clear hp2
            go_upto_region 15 with (fail)
            go_cut [68] (fun v wx => ∃ c : Bool, v = .bool c ∧ Pt hd tl blk off d2 w wx)
            case first =>
              cases wb with
              | false =>
                go_wp2_with fail
                go_meet
                case rel => exact ⟨_, rfl, HP2.out⟩
              | true =>
                cases wp with
                | false =>
                  go_wp2_with fail
                  go_meet
                  case rel => exact ⟨_, rfl, HP2.out⟩
                | true =>
                  go_wp2_with fail
                  go_meet
                  case rel => exact ⟨_, rfl, HP2.out⟩
            case rest =>
              clear HP2
              obtain ⟨c, rfl, hp2⟩ := hcut
              have HP2 := Lib.hid hp2; clear hp2
              go_upto_if 68 with (fail)
              go_cut [13] (fun _ wx => ∃ d3 : Array Int, Inv N a b a' b' d d3 ∧ Pt hd tl blk off d3 w wx)
              case first =>
                cases c with
                | false =>
                  go_wp2_with fail
                  go_meet
                  case rel => exact ⟨d2, HI2.out, HP2.out⟩
                | true =>
                  obtain ⟨g1, g2⟩ := partialInsertionSort_holds swo_ltInt d2 a' b' (by omega) (by rw [HI2.out.size]; omega) HI2.out.below
                  have HG1 := Lib.hid g1; clear g1
                  have HG2 := Lib.hid g2; clear g2
                  have KP := Lib.hid (pins_any cap a' b' N d2 _ HP2.out.row HI2.out.size (by omega) (by omega) hsz)
                  obtain ⟨r, hr⟩ : ∃ r, r = partialInsertionSort ltInt d2 a' b' := ⟨_, rfl⟩
                  rw [← hr] at HG1 HG2 KP
                  clear hr
                  obtain ⟨d3, rb⟩ := r
                  cases rb with
                  | true =>
                    go_wp2_with fail
                    with_reducible refine KP.out.mono ?_
                    rintro e w3 ⟨rfl, hp3⟩
                    have HP3 := Lib.hid (HP2.out.trans hp3); clear hp3
                    go_wp2_with fail
                    go_end0
                    obtain ⟨i1, i2⟩ := HI2.out.glue _ HG1.out (HG2.out trivial)
                    exact ⟨rfl, _, i1, i2, HP3.out⟩
                  | false =>
                    go_wp2_with fail
                    with_reducible refine KP.out.mono ?_
                    rintro e w3 ⟨rfl, hp3⟩
                    have HP3 := Lib.hid (HP2.out.trans hp3); clear hp3
                    go_wp2_with fail
                    go_meet
                    case rel => exact ⟨d3, HI2.out.perm (by omega) HG1.out, HP3.out⟩
              case rest =>
                clear HP2 HI2
                obtain ⟨d3, hi3, hp3⟩ := hcut
                have HI3 := Lib.hid hi3; clear hi3
                have HP3 := Lib.hid hp3; clear hp3
                obtain ⟨G, hG⟩ : ∃ G : Nat → Int, ∀ t, G t = d3[t]! := ⟨fun t => d3[t]!, fun _ => rfl⟩
                have HG := Lib.hid hG; clear hG
                go_upto_region 17 with (fail)
                go_cut [87] (fun v wx => ∃ c : Bool, v = .bool c ∧ (c = true → 0 < a' ∧ ltInt d3[a' - 1]! d3[p]! = false) ∧ Pt hd tl blk off d3 w wx)
                case first =>
                  have hcw : ∀ t, t < N → wc.cell? ⟨blk, off + t, none⟩ = some (.int .u64 (G t)) := fun t ht => by rw [HG.out]; exact HP3.out.row.cell (by rw [HI3.out.size]; exact ht)
                  have hpN : p < N := by omega
                  by_cases ha0 : 0 < a'
                  · obtain ⟨a0, ha0'⟩ : ∃ a0, a' = a0 + 1 := ⟨a' - 1, by omega⟩
                    have ea0 : (a' : Int) - 1 = (a0 : Int) := by omega
                    have ea0w : IntKind.i64.wrap ((a' : Int) - 1) = (a0 : Int) := by rw [ea0]; exact IntWalk.i64_in _ (by omega)
                    have ha0Z : (0 : Int) < (a' : Int) := by omega
                    have ha0N : a0 < N := by omega
                    have Ha0 := Lib.hid ha0'; clear ha0'
                    have HLt : Hid (ltInt d3[a' - 1]! d3[p]! = ltInt (G a0) (G p)) := Lib.hid (by rw [HG.out, HG.out, Ha0.out]; rfl)
                    cases hl : ltInt (G a0) (G p)
                    · go_wp2
                      go_quiet ((go_at_call 80; with_reducible exact HLe.out _ _ _ _))
                      go_wp2
                      go_meet
                      case rel => exact ⟨_, rfl, fun _ => ⟨ha0, HLt.out.trans hl⟩, HP3.out.drewN _⟩
                    · go_wp2
                      go_quiet ((go_at_call 80; with_reducible exact HLe.out _ _ _ _))
                      go_wp2
                      go_meet
                      case rel => exact ⟨_, rfl, fun h => by simp [hl] at h, HP3.out.drewN _⟩
                  · have ha0B : decide ((0 : Int) < (a' : Int)) = false := by simp; omega
                    go_wp2
                    go_quiet ((go_at_call 80; with_reducible exact HLe.out _ _ _ _))
                    go_wp2
                    go_meet
                    case rel => exact ⟨_, rfl, fun h => by simp at h, HP3.out.drewN _⟩
                case rest =>
                  clear HP3 HG
                  obtain ⟨c, rfl, hc, hp3⟩ := hcut
                  have HP3 := Lib.hid hp3; clear hp3
                  have HC := Lib.hid hc; clear hc
                  cases c with
                  | true =>
                    obtain ⟨ha0, hnl⟩ := HC.out rfl
                    have hsz3 : b' ≤ d3.size := by rw [HI3.out.size]; omega
                    have KE := Lib.hid (parteq_b cap a' b' p N d3 _ HP3.out.row HI3.out.size hpa hpb (by omega) hsz)
                    obtain ⟨mid, d4, hx⟩ : ∃ mid d4, partitionEqual ltInt d3 a' b' p = (mid, d4) := ⟨_, _, rfl⟩
                    obtain ⟨m1, m2, m3, m4, m5⟩ := round_eq swo_ltInt (partitionEqual_holds ltInt) ha0 hpa hpb hsz3 HI3.out.below hnl hx
                    rw [hx] at KE
                    have HI4 : Hid (Inv N a b mid b' d d4) := Lib.hid ⟨m3.trans HI3.out.size, m4, fun R r1 r2 => by obtain ⟨g1, g2⟩ := m5 R r1 r2; exact HI3.out.glue R g1 g2⟩
                    clear hx hnl m3 m4 m5 hsz3
                    go_wp2_with fail
                    with_reducible refine KE.out.mono ?_
                    rintro e w4 ⟨rfl, hp4⟩
                    have HP4 := Lib.hid (HP3.out.trans hp4); clear hp4
                    go_wp2_with fail
                    go_roundg (b' - mid)
                    case measure => clear el; omega
                    case rel => exact ⟨mid, b', lm, wb, wp, d4, rfl, rfl, rfl, rfl, rfl, rfl, ⟨by clear el; omega, m2, h3, hlm⟩, HI4.out, HP4.out⟩
                  | false =>
                    have hsz3 : b' ≤ d3.size := by rw [HI3.out.size]; omega
                    have KE := Lib.hid (part_b cap a' b' p N d3 _ HP3.out.row HI3.out.size hpa hpb (by omega) hsz)
                    obtain ⟨mid, ap, d4, hx⟩ : ∃ mid ap d4, partition ltInt d3 a' b' p = (mid, ap, d4) := ⟨_, _, _, rfl⟩
                    obtain ⟨m1, m2, m3, m4, m5, m6, m7⟩ := round_part swo_ltInt (partition_holds ltInt) hpa hpb hsz3 HI3.out.below hx
                    rw [hx] at KE
                    have HS4 := Lib.hid (m3.trans HI3.out.size); clear m3
                    have H4 := Lib.hid m4; clear m4
                    have H5 := Lib.hid m5; clear m5
                    have H6 := Lib.hid m6; clear m6
                    have H7 := Lib.hid m7; clear m7
                    clear hx hsz3
                    go_wp2_with fail
                    with_reducible refine KE.out.mono ?_
                    rintro e w4 ⟨rfl, hp4⟩
                    have HP4 := Lib.hid (HP3.out.trans hp4); clear hp4 HP3 KE
                    have hl6 : l ≤ 1000000 := by have := Hl.out; omega
                    by_cases hlr : mid - a' < b' - mid
                    · have hlrZ : (mid : Int) - (a' : Int) < (b' : Int) - (mid : Int) := by clear el; omega
                      have KR := Lib.hid (HIH.out (mid - a') (by clear el; omega) a' mid lm d4 w4 (Nat.le_refl _) m1 (by omega) hlm HP4.out.row HS4.out H4.out)
                      go_wp2_with fail
                      with_reducible refine KR.out.mono ?_
                      rintro e w5 ⟨rfl, d5, q1, q2, hp5⟩
                      have HP5 := Lib.hid (HP4.out.trans hp5); clear hp5
                      obtain ⟨z1, z2⟩ := H6.out d5 q1 q2
                      have HI5 : Hid (Inv N a b (mid + 1) b' d d5) := Lib.hid ⟨q1.1.trans HS4.out, z1, fun R r1 r2 => by obtain ⟨g1, g2⟩ := z2 R r1 r2; exact HI3.out.glue R g1 g2⟩
                      clear q1 q2 z1 z2
                      go_wp2_with fail
                      go_roundg (b' - (mid + 1))
                      case measure => clear el; omega
                      case rel => exact ⟨mid + 1, b', lm, _, ap, d5, by go_num, rfl, rfl, rfl, rfl, rfl, ⟨by clear el; omega, by clear el; omega, h3, hlm⟩, HI5.out, HP5.out⟩
                    · have hlrB : decide ((mid : Int) - (a' : Int) < (b' : Int) - (mid : Int)) = false := by clear el; simp; omega
                      have KR := Lib.hid (HIH.out (b' - (mid + 1)) (by clear el; omega) (mid + 1) b' lm d4 w4 (Nat.le_refl _) (by clear el; omega) (by omega) hlm HP4.out.row HS4.out H5.out)
                      rw [show ((mid + 1 : Nat) : Int) = (mid : Int) + 1 by clear el; omega] at KR
                      go_wp2_with fail
                      with_reducible refine KR.out.mono ?_
                      rintro e w5 ⟨rfl, d5, q1, q2, hp5⟩
                      have HP5 := Lib.hid (HP4.out.trans hp5); clear hp5
                      obtain ⟨z1, z2⟩ := H7.out d5 q1 q2
                      have HI5 : Hid (Inv N a b a' mid d d5) := Lib.hid ⟨q1.1.trans HS4.out, z1, fun R r1 r2 => by obtain ⟨g1, g2⟩ := z2 R r1 r2; exact HI3.out.glue R g1 g2⟩
                      clear q1 q2 z1 z2
                      go_wp2_with fail
                      go_roundg (mid - a')
                      case measure => clear el; omega
                      case rel => exact ⟨a', mid, lm, _, ap, d5, rfl, rfl, rfl, rfl, rfl, rfl, ⟨h1, m1, by clear el; omega, hlm⟩, HI5.out, HP5.out⟩
end Go.Proofs.YthgabbkpjffdnaaDoor.S64
set_option linter.unusedSimpArgs false
namespace Go.Proofs.YthgabbkpjffdnaaDoor
open Go.RowKit Go.Maps
open Mm (Mem Blk)
/-- The words of a row, as an array of numbers. -/
def arr (ss : List Nat) : Array Int := (ss.map (fun x : Nat => (x : Int))).toArray
theorem arr_size (ss : List Nat) : (arr ss).size = ss.length := by simp [arr]
theorem arr_cells (ss : List Nat) : (arr ss).toList.map (Value.int .u64) = us ss := by simp [arr, us, ku, Function.comp_def]
/-- What is sorted is a permutation, and rises. -/
theorem sorted_list {ss : List Nat} {d : Array Int} (hp : Go.Sort.PermIn 0 ss.length (arr ss) d) (hs : Go.Sort.SortedIn Go.Sort.ltInt 0 ss.length d) : ∃ ts : List Nat, d = arr ts ∧ ts.Perm ss ∧ ts.Pairwise (· ≤ ·) := by
  have hsz : d.size = ss.length := hp.1.trans (arr_size ss)
  have hperm : d.toList.Perm (arr ss).toList := by
    have := hp.2.2
    rw [Array.extract_eq_self_of_le (by omega), Array.extract_eq_self_of_le (by rw [arr_size]; omega)] at this
    exact this
  have hnn : ∀ x ∈ d.toList, ∃ n : Nat, x = (n : Int) := fun x hx => by
    have := hperm.mem_iff.1 hx
    simp [arr] at this
    obtain ⟨n, _, rfl⟩ := this
    exact ⟨n, rfl⟩
  have hd : d = arr (d.toList.map Int.toNat) := by
    apply Array.ext'
    simp only [arr, List.map_map]
    rw [show d.toList.map ((fun x : Nat => (x : Int)) ∘ Int.toNat) = d.toList.map id from List.map_congr_left fun x hx => by obtain ⟨n, rfl⟩ := hnn x hx; simp]
    simp
  refine ⟨d.toList.map Int.toNat, hd, ?_, ?_⟩
  · have h1 := hperm.map Int.toNat
    simpa [arr, Function.comp_def] using h1
  · rw [List.pairwise_iff_getElem]
    intro i j hi hj hij
    simp at hi hj
    have := hs i j (by omega) hij (by omega)
    rw [getElem!_pos d i (by omega), getElem!_pos d j (by omega)] at this
    simp [Go.Sort.ltInt] at this
    obtain ⟨n, e1⟩ := hnn d[i] (by simp)
    obtain ⟨m, e2⟩ := hnn d[j] (by simp)
    simp only [List.getElem_map, Array.getElem_toList]
    omega
set_option maxRecDepth 100000 in
set_option maxHeartbeats 2000000 in
theorem ins_nil (w : World) : Calls Tryd.prog 74 #[.slice none 0 0, .int .i64 0, .int .i64 0] w (Same (.tuple #[]) w) := by
  go_enter Tryd.func74, Tryd.ntmps74
  go_wp2
  refine wp_loop_rounds 1 ?_
  simp only [rounds_succ]
  go_wp2
  go_end0
  exact ⟨rfl, rfl⟩
set_option maxRecDepth 100000 in
set_option maxHeartbeats 2000000 in
theorem pdq_nil (w : World) : Calls Tryd.prog 67 #[.slice none 0 0, .int .i64 0, .int .i64 0, .int .i64 0] w (Same (.tuple #[]) w) := by
  have K := Lib.hid ins_nil
  go_enter Tryd.func67, Tryd.ntmps67
  go_wp2_with fail
  refine wp_loop_rounds 1 ?_
  simp only [rounds_succ]
  go_wp2_with fail
  with_reducible refine (K.out w).mono ?_
  rintro e w' ⟨rfl, rfl⟩
  go_wp2_with fail
  go_end0
  exact ⟨rfl, rfl⟩
/-- The row comes out sorted; nothing else turns. -/
def Sorted (B : Nat) (v : Value) (ss : List Nat) (w : World) (e : Ending) (w' : World) : Prop := e = .returned (.tuple #[]) ∧ ∃ ts : List Nat, ts.Perm ss ∧ ts.Pairwise (· ≤ ·) ∧ w'.ownsRow B 23 1 v ts.length (us ts) ∧ w.grownBy w' v.ownBlock
set_option maxRecDepth 100000 in
set_option maxHeartbeats 2000000 in
theorem sort_nil (w : World) : Calls Tryd.prog 57 #[.slice none 0 0] w (Same (.tuple #[]) w) := by
  have K := Lib.hid (pdq_nil w)
  have KL : Hid (Calls Tryd.prog 68 #[.int .u64 0] w fun e w' => e = .returned (.int .i64 0) ∧ w' = w) := Lib.hid (Tryd.bits_Len 0 w (by decide) (by decide))
  go_enter Tryd.func57, Tryd.ntmps57
  go_wp2_with fail
  with_reducible refine KL.out.mono ?_
  rintro e w' ⟨rfl, rfl⟩
  go_wp2_with fail
  with_reducible refine K.out.mono ?_
  rintro e w' ⟨rfl, rfl⟩
  go_wp2_with fail
  go_end0
  exact ⟨rfl, rfl⟩
set_option maxRecDepth 100000 in
set_option maxHeartbeats 2000000 in
theorem sort_some (g cap N : Nat) (tl : List Value) (d : Array Int) (w : World) (hR : S64.Rw [] tl g 0 w d) (hN : d.size = N) (hsz : N ≤ 1000000) :
    Calls Tryd.prog 57 #[.slice (some ⟨g, 0, none⟩) N cap] w (S64.Sorts [] tl g 0 0 N d w) := by
  have K : Hid (∀ lim : Nat, lim ≤ 1000 → Calls Tryd.prog 67 #[.slice (some ⟨g, 0, none⟩) N cap, .int .i64 0, .int .i64 (N : Int), .int .i64 (lim : Int)] w (S64.Sorts [] tl g 0 0 N d w)) :=
    Lib.hid fun lim hlim => S64.pdq_any cap N hsz N 0 N lim d w (by omega) (by omega) (Nat.le_refl _) hlim hR hN (.inl rfl)
  have hlim : Lib.bitLen N ≤ 1000 := by
    have := S64.bit20 N hsz
    apply Nat.le_of_not_lt
    intro hlt
    have h2 := Nat.pow_le_pow_right (show 0 < 2 by omega) (show 21 ≤ Lib.bitLen N by omega)
    omega
  have KL := Lib.hid (Tryd.bits_Len (N : Int) w (by omega) (by omega))
  rw [Int.toNat_natCast] at KL
  obtain ⟨lim, el⟩ : ∃ lim, lim = Lib.bitLen N := ⟨_, rfl⟩
  rw [← el] at KL hlim
  clear el hR hN
  go_enter Tryd.func57, Tryd.ntmps57
  go_wp2_with fail
  with_reducible refine KL.out.mono ?_
  rintro e w' ⟨rfl, rfl⟩
  go_wp2_with fail
  with_reducible refine (K.out lim hlim).mono ?_
  rintro e w' ⟨rfl, h⟩
  have H := Lib.hid h; clear h
  go_wp2_with fail
  go_end0
  exact ⟨rfl, H.out⟩
theorem sort_any (B : Nat) (v : Value) (ss : List Nat) (w : World) (h : w.ownsRow B 23 1 v ss.length (us ss)) (hl : ss.length ≤ 1000000) :
    Calls Tryd.prog 57 #[v] w (Sorted B v ss w) := by
  have h0 := h
  rcases h.2 with ⟨rfl, hn⟩ | ⟨g, cap, cur, rfl, hB, hg, hc, hm, hs, ht⟩
  · refine (sort_nil w).mono ?_
    rintro e w' ⟨rfl, rfl⟩
    have : ss = [] := List.length_eq_zero_iff.1 hn
    subst this
    exact ⟨rfl, [], List.Perm.refl _, List.Pairwise.nil, h0, ⟨rfl, rfl, rfl, Nat.le_refl _, fun _ _ _ => rfl⟩⟩
  · have hcur : cur = ([] ++ ((arr ss).toList.map (Value.int .u64) ++ cur.toList.drop ss.length)).toArray := by
      rw [arr_cells]
      apply Array.ext'
      simp only [List.nil_append]
      rw [← ht]
      simp
    have hR : S64.Rw [] (cur.toList.drop ss.length) g 0 w (arr ss) := ⟨rfl, by rw [hg]; exact congrArg some (congrArg (fun c => Obj.cells c 23 (0, 0)) hcur)⟩
    refine (sort_some g cap ss.length _ (arr ss) w hR (arr_size ss) hl).mono ?_
    rintro e w' ⟨rfl, d', hp, hsd, hpt⟩
    obtain ⟨ts, rfl, h1, h2⟩ := sorted_list hp hsd
    have hlen := h1.length_eq
    refine ⟨rfl, ts, h1, h2, ⟨by simp [us], .inr ⟨g, cap, _, by rw [hlen], hB, hpt.row.own, by omega, hm, ?_, ?_⟩⟩, ⟨hpt.os, hpt.tape, hpt.output, hpt.size, fun k hk hne => hpt.block k hk (fun e => hne (by rw [e]; rfl))⟩⟩
    · simp [arr_size, arr]; omega
    · rw [arr_cells]; simp [us]
/-- The numbers of blocks. -/
def nos (l : List Blk) : List Nat := l.map (·.1)
theorem up_sorted : ∀ {l : List Blk} {lo hi : Nat}, Mm.Up lo hi l → (nos l).Pairwise (· < ·)
  | [], _, _, _ => List.Pairwise.nil
  | b :: r, lo, hi, h => by
    refine List.pairwise_cons.2 ⟨fun x hx => ?_, up_sorted h.2.2⟩
    obtain ⟨c, hc, rfl⟩ := List.mem_map.1 hx
    exact (h.2.2.mem c hc).1
theorem get_isSome {l : List Blk} {n : Nat} : (Mm.get l n).isSome = true ↔ n ∈ nos l := by
  cases h : Mm.get l n with
  | none =>
    have := Mm.get_none h
    simp [nos]
    intro x hx
    exact this _ hx rfl
  | some ws => simp only [Option.isSome_some, true_iff]; exact List.mem_map.2 ⟨_, Mm.get_some_mem h, rfl⟩
theorem nos_len {S : Mem} (h : Mm.Good S) : (nos S.L).length ≤ 65536 := by
  have h1 := h.fits
  have h2 := h.r2
  have : ∀ l : List Blk, (∀ b ∈ l, 1 ≤ b.2.length) → l.length ≤ Mm.used l := by
    intro l
    induction l with
    | nil => simp
    | cons b r ih =>
      intro hb
      have h1 := hb b List.mem_cons_self
      have h2 := ih fun c hc => hb c (List.mem_cons_of_mem _ hc)
      simp [Mm.used]
      omega
  have := this S.L h.full
  simp [nos]
  omega
/-- The keys that come, sorted, are the blocks' numbers. -/
theorem keys_nos {S : Mem} {D : DataW Value} {g : Nat → Nat} {ss ts : List Nat} (hG : Mm.Good S) (hh : Holds8 D g S.L) (hk : Keyz D ss) (hp : ts.Perm ss) (hs : ts.Pairwise (· ≤ ·)) : ts = nos S.L := by
  have hup := up_sorted hG.up
  have hnd : (nos S.L).Nodup := hup.imp fun h => by omega
  have hp2 : ss.Perm (nos S.L) := (List.perm_ext_iff_of_nodup hk.1 hnd).2 fun x => by rw [hk.2, hh.has, get_isSome]
  exact List.Perm.eq_of_pairwise (fun a b _ _ h1 h2 => by omega) hs (hup.imp fun h => by omega) (hp.trans hp2)
theorem keyz_len {S : Mem} {D : DataW Value} {g : Nat → Nat} {ss : List Nat} (hG : Mm.Good S) (hh : Holds8 D g S.L) (hk : Keyz D ss) : ss.length ≤ 65536 :=
  Nat.le_trans (List.Nodup.length_le_of_subset hk.1 fun x hx => by rw [← get_isSome, ← hh.has]; exact (hk.2 x).1 hx) (nos_len hG)
set_option maxRecDepth 100000 in
set_option maxHeartbeats 1000000 in
theorem sorted_any {B : Nat} {p m b1 : Nat} {g : Nat → Nat} {S : Mem} {w : World} (h : Ar B w p m g S) (hl : S.last ≤ 1000000000000) (h1 : w.cell? ⟨b1, 0, none⟩ = some (.map (some m))) :
    Calls Tryd.prog 39 #[.func (.func 58) #[] #[.pointer (some ⟨b1, 0, none⟩)]] w (Lists (fun ts => ts = nos S.L) w) := by
  obtain ⟨nn, D, hnn, ho, hh⟩ := h.map
  have K := Lib.hid (collect_any b1 m nn D w h1 ho (by omega))
  have KS : Hid (∀ v ss w', Keyz D ss → w'.ownsRow w.heap.size 23 1 v ss.length (us ss) → Calls Tryd.prog 57 #[v] w' (Sorted w.heap.size v ss w')) := Lib.hid fun v ss w' hk hr => sort_any _ v ss w' hr (by have := keyz_len h.good hh hk; omega)
  have HE : Hid (∀ ss ts, Keyz D ss → ts.Perm ss → ts.Pairwise (· ≤ ·) → ts = nos S.L) := Lib.hid fun ss ts hk hp hs => keys_nos h.good hh hk hp hs
  clear h h1 ho hh hnn
  go_enter Tryd.func39, Tryd.ntmps39
  go_wp2_with fail
  with_reducible refine K.out.mono ?_
  rintro e w1 ⟨v, ss, rfl, hk, hr, hnil, hb⟩
  have HR := Lib.hid hr; clear hr
  have HK := Lib.hid hk; clear hk
  have HN := Lib.hid hnil; clear hnil
  have HB := Lib.hid hb; clear hb
  go_wp2_with fail
  with_reducible refine (KS.out v ss w1 HK.out HR.out).mono ?_
  rintro e w2 ⟨rfl, ts, hp, hs, hr, hg⟩
  have HT := Lib.hid (HE.out ss ts HK.out hp hs)
  have HP := Lib.hid hp
  have HR2 := Lib.hid hr
  have HG := Lib.hid hg
  clear hp hs hr hg
  go_wp2_with fail
  go_ret
  refine ⟨v, ts, rfl, HT.out, HR2.out, HN.out.trans ⟨fun e => by subst e; exact List.perm_nil.1 HP.out, fun e => by subst e; exact (List.perm_nil.1 HP.out.symm)⟩, HB.out.trans ⟨HG.out.os, HG.out.tape, HG.out.output, HG.out.size, fun k hk => HG.out.block k (by have := HB.out.size; omega) (fun e => by have := (HR.out.lt k e.symm).1; omega)⟩⟩
set_option maxRecDepth 100000 in
set_option maxHeartbeats 1000000 in
theorem blocks_any {B : Nat} {w : World} {p : Nat} {S : Mem} {F : Nat → Prop} (h : Ax B w p S F) (hl : S.last ≤ 1000000000000) :
    Calls Tryd.prog 18 #[.pointer (some ⟨p, 0, none⟩)] w (Lists (fun ts => ts = nos S.L) w) := by
  obtain ⟨m, g, h, rfl⟩ := h
  have HM := Lib.hid h.made
  have c4 := h.c4
  have hb0 : Below w.heap.size w (w.alloc (.cells #[.map (some m)] 58)) := (Below.refl _ w).alloc (Nat.le_refl _) _
  have h' : Ar B (w.alloc (.cells #[.map (some m)] 58)) p m g S := h.keep fun k hk => hb0.block k (h.foot hk).2
  have hc1 : (w.alloc (.cells #[.map (some m)] 58)).cell? ⟨w.heap.size, 0, none⟩ = some (.map (some m)) := by
    have e := heap_alloc_new w (.cells #[.map (some m)] 58)
    simp only [World.cell?]
    rw [e]
    rfl
  have KS := Lib.hid (sorted_any h' hl hc1)
  have KK := Lib.hid (keys_any (some m) w)
  have HB0 := Lib.hid hb0
  clear h h' hb0 hc1
  go_enter Tryd.func18, Tryd.ntmps18
  go_wp2_with fail
  with_reducible refine HM.out.mono ?_
  rintro e w' ⟨rfl, rfl⟩
  go_wp2_with fail
  with_reducible refine KK.out.mono ?_
  rintro e w1 ⟨rfl, rfl⟩
  go_wp2_with fail
  with_reducible refine KS.out.mono ?_
  rintro e w2 ⟨v, ts, rfl, ht, hr, hnil, hb⟩
  have HT := Lib.hid ht; clear ht
  have HR := Lib.hid hr; clear hr
  have HN := Lib.hid hnil; clear hnil
  have HB := Lib.hid hb; clear hb
  go_wp2_with fail
  go_ret
  refine ⟨v, ts, rfl, HT.out, ?_, HN.out, HB0.out.trans (HB.out.mono (by simp))⟩
  have := HR.out
  refine ⟨this.1, ?_⟩
  rcases this.2 with hn | ⟨g, cap, cur, h1, h2, h3⟩
  · exact .inl hn
  · exact .inr ⟨g, cap, cur, h1, by simp at h2; omega, h3⟩
end Go.Proofs.YthgabbkpjffdnaaDoor
