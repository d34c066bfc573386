/-
  The walk of partitionEqualOrdered at words. By an AI agent.
-/
import Derived.Test.YthldjdkjgiebaaaSortPart
set_option linter.unusedSimpArgs false
namespace Go.Proofs.Ythldjdkjgiebaaa.S64
open Go.RowKit Go.Sort
variable {hd tl : List Value} {blk off : Nat}
/-- An index, and the row. -/
def Part1 (hd tl : List Value) (blk off : Nat) (r : Nat × Array Int) (w : World) (e : Ending) (w' : World) : Prop := e = .returned (.int .i64 (r.1 : Int)) ∧ Pt hd tl blk off r.2 w w'
set_option maxRecDepth 100000 in
set_option maxHeartbeats 4000000 in
theorem parteq_any (cap a b pv N : Nat) (d : Array Int) (w : World) (hR : Rw hd tl blk off w d) (hN : d.size = N) (hpa : a ≤ pv) (hpb : pv ≤ b) (hb : b < N) (hsz : N ≤ 1000000) :
    Calls Try.prog 66 #[.slice (some ⟨blk, off, none⟩) N cap, .int .i64 (a : Int), .int .i64 ((b : Int) + 1), .int .i64 (pv : Int)] w (Part1 hd tl blk off (partitionEqual ltInt d a (b + 1) pv) w) := by
  have P0 := Lib.hid hR.refl; clear hR
  have HN := Lib.hid hN; clear hN
  have HE : Hid (partitionEqual ltInt d a (b + 1) pv = partEqLoop ltInt a (a + 1) b (swp d a pv)) := Lib.hid rfl
  obtain ⟨G, hG⟩ : ∃ G : Nat → Int, ∀ t, G t = d[t]! := ⟨fun t => d[t]!, fun _ => rfl⟩
  have HG := Lib.hid hG; clear hG
  go_enter Try.func66, Try.ntmps66
  have hcw : ∀ t, t < N → w.cell? ⟨blk, off + t, none⟩ = some (.int .u64 (G t)) := fun t ht => by rw [HG.out]; exact P0.out.row.cell (by rw [HN.out]; exact ht)
  have hfw : ∀ t, t < N → w.frozen? ⟨blk, off + t, none⟩ = false := fun t _ => P0.out.row.frozen t
  have hcs := P0.out.cell_swap (i := a) (j := pv) (by rw [HN.out]; omega) (by rw [HN.out]; omega)
  rw [← HG.out] at hcs
  have hiN : a < N := by omega
  have hjN : pv < N := by omega
  go_upto_region 1 with (fail)
  go_region
  have hnew := (P0.out.swap (i := a) (j := pv) (by rw [HN.out]; omega) (by rw [HN.out]; omega)).drew
  rw [← HG.out, ← HG.out] at hnew
  clear hcs hcw hfw
  generalize ((w.setCell ⟨blk, off + a, none⟩ (.int .u64 (G pv))).setCell ⟨blk, off + pv, none⟩ (.int .u64 (G a))).drew = W1 at hnew ⊢
  have HP1 := Lib.hid hnew; clear hnew hiN hjN
  obtain ⟨d1, hd1⟩ : ∃ d1, d1 = swp d a pv := ⟨_, rfl⟩
  have HS1 : Hid (d1.size = N) := Lib.hid (by rw [hd1, size_swp]; exact HN.out)
  rw [← hd1] at HP1 HE
  clear hd1 HG HN P0
  go_wp2_with fail
  go_loopg [9, 10] (b + 1 - (a + 1)) (fun k vi vj wr => ∃ (i j : Nat) (dk : Array Int), vi = .int .i64 (i : Int) ∧ vj = .int .i64 (j : Int) ∧ k = j + 1 - i ∧ (a < i ∧ i ≤ N ∧ a ≤ j ∧ j < N) ∧ dk.size = N ∧ Pt hd tl blk off dk w wr ∧ partEqLoop ltInt a i j dk = partEqLoop ltInt a (a + 1) b d1)
  case atStart => exact ⟨a + 1, b, d1, by go_num, by go_num, rfl, ⟨by omega, by omega, by omega, by omega⟩, HS1.out, HP1.out, rfl⟩
  case round =>
    obtain ⟨i, j, dk, rfl, rfl, rfl, ⟨hi1, hi2, hj1, hj2⟩, hsk, hpk, hO⟩ := hrel
    have HO := Lib.hid hO; clear hO
    have HSk := Lib.hid hsk; clear hsk
    have HPk := Lib.hid hpk; clear hpk HP1
    obtain ⟨Gk, hG⟩ : ∃ G : Nat → Int, ∀ t, G t = dk[t]! := ⟨fun t => dk[t]!, fun _ => rfl⟩
    have HGk := Lib.hid hG; clear hG
    go_upto_block 2 with (fail)
    go_cut [9] (fun vi wx => ∃ q : Nat, vi = .int .i64 (q : Int) ∧ q = scanUp (fun x => !ltInt dk[a]! x) dk j i ∧ (i ≤ q ∧ q ≤ N) ∧ Pt hd tl blk off dk w wx)
    case first =>
      go_wp2_with fail
      go_loopg [9] (N + 1 - i) (fun k vi wr => ∃ q : Nat, vi = .int .i64 (q : Int) ∧ k = N + 1 - q ∧ (i ≤ q ∧ q ≤ N) ∧ scanUp (fun x => !ltInt dk[a]! x) dk j q = scanUp (fun x => !ltInt dk[a]! x) dk j i ∧ Pt hd tl blk off dk w wr)
      case atStart => exact ⟨i, rfl, rfl, ⟨by omega, by omega⟩, rfl, HPk.out⟩
      case round =>
        obtain ⟨q, rfl, rfl, ⟨hq1, hq2⟩, hq3, hq4⟩ := hrel
        have HQ3 := Lib.hid hq3; clear hq3
        have hcw : ∀ t, t < N → wr.cell? ⟨blk, off + t, none⟩ = some (.int .u64 (Gk t)) := fun t ht => by rw [HGk.out]; exact hq4.row.cell (by rw [HSk.out]; exact ht)
        have HQ4 := Lib.hid hq4; clear hq4
        have HLe := Lib.hid less_q
        by_cases hle : q ≤ j
        · have hleZ : (q : Int) ≤ (j : Int) := by omega
          have hqN : q < N := by omega
          cases hl : ltInt (Gk a) (Gk q)
          · skip
            go_wp2
            go_quiet ((go_at_call 65; with_reducible exact HLe.out _ _ _ _))
            go_wp2
            go_roundg (N + 1 - (q + 1))
            case measure => omega
            case rel => exact ⟨q + 1, by go_num, rfl, ⟨by omega, by omega⟩, by rw [← HQ3.out]; exact (up_on hle (by have e := hl; rw [HGk.out, HGk.out] at e; simp [e])).symm, HQ4.out.drewN _⟩
          · skip
            go_wp2
            go_quiet ((go_at_call 65; with_reducible exact HLe.out _ _ _ _))
            go_wp2
            go_meet
            case rel => exact ⟨q, rfl, by rw [← HQ3.out]; exact (up_off (.inr (by have e := hl; rw [HGk.out, HGk.out] at e; simp [e]))).symm, ⟨hq1, hq2⟩, HQ4.out.drewN _⟩
        · have hleB : decide ((q : Int) ≤ (j : Int)) = false := by simp; omega
          go_wp2
          go_quiet ((go_at_call 65; with_reducible exact HLe.out _ _ _ _))
          go_wp2
          go_meet
          case rel => exact ⟨q, rfl, by rw [← HQ3.out]; exact (up_off (.inl hle)).symm, ⟨hq1, hq2⟩, HQ4.out.drewN _⟩
    case rest =>
      obtain ⟨i2, rfl, h1, ⟨hb1i2, hb2i2⟩, h2⟩ := hcut
      have Hi2 := Lib.hid h1; clear h1
      have HPi2 := Lib.hid h2; clear h2
      go_upto_block 4 with (fail)
      go_cut [10] (fun vi wx => ∃ q : Nat, vi = .int .i64 (q : Int) ∧ q = scanDown (fun x => ltInt dk[a]! x) dk i2 j ∧ (a ≤ q ∧ q ≤ j) ∧ Pt hd tl blk off dk w wx)
      case first =>
        go_wp2_with fail
        go_loopg [10] (j + 1) (fun k vi wr => ∃ q : Nat, vi = .int .i64 (q : Int) ∧ k = q + 1 ∧ (a ≤ q ∧ q ≤ j) ∧ scanDown (fun x => ltInt dk[a]! x) dk i2 q = scanDown (fun x => ltInt dk[a]! x) dk i2 j ∧ Pt hd tl blk off dk w wr)
        case atStart => exact ⟨j, rfl, rfl, ⟨by omega, by omega⟩, rfl, HPi2.out⟩
        case round =>
          obtain ⟨q, rfl, rfl, ⟨hq1, hq2⟩, hq3, hq4⟩ := hrel
          have HQ3 := Lib.hid hq3; clear hq3
          have hcw : ∀ t, t < N → wr.cell? ⟨blk, off + t, none⟩ = some (.int .u64 (Gk t)) := fun t ht => by rw [HGk.out]; exact hq4.row.cell (by rw [HSk.out]; exact ht)
          have HQ4 := Lib.hid hq4; clear hq4
          have HLe := Lib.hid less_q
          by_cases hle : i2 ≤ q
          · have hleZ : (i2 : Int) ≤ (q : Int) := by omega
            have hqN : q < N := by omega
            have hq0 : 1 ≤ q := by omega
            have eq1 : (q : Int) - 1 = ((q - 1 : Nat) : Int) := by omega
            have Eq1 := Lib.hid eq1; clear eq1
            cases hl : ltInt (Gk a) (Gk q)
            · skip
              go_wp2
              go_quiet ((go_at_call 65; with_reducible exact HLe.out _ _ _ _))
              go_wp2
              go_meet
              case rel => exact ⟨q, rfl, by rw [← HQ3.out]; exact (down_off (.inr (by have e := hl; rw [HGk.out, HGk.out] at e; simp [e]))).symm, ⟨hq1, hq2⟩, HQ4.out.drewN _⟩
            · skip
              go_wp2
              go_quiet ((go_at_call 65; with_reducible exact HLe.out _ _ _ _))
              go_wp2
              go_roundg (q - 1 + 1)
              case measure => omega
              case rel => exact ⟨q - 1, by rw [Eq1.out], rfl, ⟨by omega, by omega⟩, by rw [← HQ3.out]; exact (down_on hq0 hle (by have e := hl; rw [HGk.out, HGk.out] at e; simp [e])).symm, HQ4.out.drewN _⟩
          · have hleB : decide ((i2 : Int) ≤ (q : Int)) = false := by simp; omega
            go_wp2
            go_quiet ((go_at_call 65; with_reducible exact HLe.out _ _ _ _))
            go_wp2
            go_meet
            case rel => exact ⟨q, rfl, by rw [← HQ3.out]; exact (down_off (.inl hle)).symm, ⟨hq1, hq2⟩, HQ4.out.drewN _⟩
      case rest =>
        obtain ⟨j2, rfl, h1, ⟨hb1j2, hb2j2⟩, h2⟩ := hcut
        have Hj2 := Lib.hid h1; clear h1
        have HPj2 := Lib.hid h2; clear h2
        have hle0 : i ≤ i2 := hb1i2
        have hle1 : j2 ≤ j := hb2j2
        have e := HO.out
        rw [partEqLoop_eq, ← Hi2.out, ← Hj2.out] at e
        have HO2 := Lib.hid e; clear e HO Hi2 Hj2
        by_cases hgt : j2 < i2
        · have hgtZ : (j2 : Int) < (i2 : Int) := by omega
          go_wp2
          go_ret
          have e := HO2.out
          rw [if_pos hgt] at e
          rw [HE.out, ← e]
          exact ⟨rfl, HPj2.out⟩
        · have hgtB : decide ((j2 : Int) < (i2 : Int)) = false := by simp; omega
          have hcw : ∀ t, t < N → wc.cell? ⟨blk, off + t, none⟩ = some (.int .u64 (Gk t)) := fun t ht => by rw [HGk.out]; exact HPj2.out.row.cell (by rw [HSk.out]; exact ht)
          have hfw : ∀ t, t < N → wc.frozen? ⟨blk, off + t, none⟩ = false := fun t _ => HPj2.out.row.frozen t
          have hcs := HPj2.out.cell_swap (i := i2) (j := j2) (by rw [HSk.out]; omega) (by rw [HSk.out]; omega)
          rw [← HGk.out] at hcs
          have hiN : i2 < N := by omega
          have hjN : j2 < N := by omega
          go_upto_region 8 with (fail)
          go_region
          have hnew := (HPj2.out.swap (i := i2) (j := j2) (by rw [HSk.out]; omega) (by rw [HSk.out]; omega)).drew
          rw [← HGk.out, ← HGk.out] at hnew
          clear hcs hcw hfw
          generalize ((wc.setCell ⟨blk, off + i2, none⟩ (.int .u64 (Gk j2))).setCell ⟨blk, off + j2, none⟩ (.int .u64 (Gk i2))).drew = W3 at hnew ⊢
          have HP3 := Lib.hid hnew; clear hnew hiN hjN
          obtain ⟨j3, rfl⟩ : ∃ j3, j2 = j3 + 1 := ⟨j2 - 1, by omega⟩
          go_wp2
          go_roundg (j3 + 1 - (i2 + 1))
          case measure => omega
          case rel =>
            exact ⟨i2 + 1, j3, swp dk i2 (j3 + 1), by go_num, by go_num, rfl, ⟨by omega, by omega, by omega, by omega⟩, by rw [size_swp]; exact HSk.out, HP3.out, by have e := HO2.out; rw [if_neg hgt] at e; exact e⟩
end Go.Proofs.Ythldjdkjgiebaaa.S64
