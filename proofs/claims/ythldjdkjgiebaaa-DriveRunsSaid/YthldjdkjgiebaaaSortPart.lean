/-
  The walk of partitionOrdered at words. By an AI agent.
-/
import Derived.Test.YthldjdkjgiebaaaSortHeap2
import Derived.Deep.DeepCutAuto
import Derived.Deep.CutBlock
import Derived.Deep.LoopGhost
set_option linter.unusedSimpArgs false
namespace Go.Proofs.Ythldjdkjgiebaaa.S64
open Go.RowKit Go.Sort
variable {hd tl : List Value} {blk off : Nat}
/-- An index, a bool, and the row. -/
def Parts (hd tl : List Value) (blk off : Nat) (r : Nat × Bool × Array Int) (w : World) (e : Ending) (w' : World) : Prop := e = .returned (.tuple #[.int .i64 (r.1 : Int), .bool r.2.1]) ∧ Pt hd tl blk off r.2.2 w w'
theorem up_on {p : Int → Bool} {d : Array Int} {j i : Nat} (h : i ≤ j) (hp : p d[i]! = true) : scanUp p d j i = scanUp p d j (i + 1) := by
  conv => lhs; rw [scanUp]
  simp [h, hp]
theorem up_off {p : Int → Bool} {d : Array Int} {j i : Nat} (h : ¬ i ≤ j ∨ p d[i]! = false) : scanUp p d j i = i := by
  rw [scanUp]
  rcases h with h | h
  · simp [h]
  · simp [h]
theorem down_on {p : Int → Bool} {d : Array Int} {j i : Nat} (h0 : 1 ≤ j) (h : i ≤ j) (hp : p d[j]! = true) : scanDown p d i j = scanDown p d i (j - 1) := by
  obtain ⟨j, rfl⟩ : ∃ k, j = k + 1 := ⟨j - 1, by omega⟩
  rw [scanDown]; simp [h, hp]
theorem down_off {p : Int → Bool} {d : Array Int} {j i : Nat} (h : ¬ i ≤ j ∨ p d[j]! = false) : scanDown p d i j = j := by
  cases j with
  | zero => rfl
  | succ j =>
    rw [scanDown]
    rcases h with h | h
    · simp [h]
    · simp [h]
set_option maxRecDepth 100000 in
set_option maxHeartbeats 4000000 in
theorem part_any (cap a b pv N : Nat) (d : Array Int) (w : World) (hR : Rw hd tl blk off w d) (hN : d.size = N) (hpa : a ≤ pv) (hpb : pv ≤ b) (hb : b < N) (hsz : N ≤ 1000000) :
    Calls Try.prog 67 #[.slice (some ⟨blk, off, none⟩) N cap, .int .i64 (a : Int), .int .i64 ((b : Int) + 1), .int .i64 (pv : Int)] w (Parts hd tl blk off (partition ltInt d a (b + 1) pv) w) := by
  have P0 := Lib.hid hR.refl; clear hR
  have HN := Lib.hid hN; clear hN
  have HE : Hid (∀ i j, i = scanUp (fun x => ltInt x (swp d a pv)[a]!) (swp d a pv) b (a + 1) → j = scanDown (fun x => !ltInt x (swp d a pv)[a]!) (swp d a pv) i b → partition ltInt d a (b + 1) pv = if i > j then (j, true, swp (swp d a pv) j a) else ((partLoop ltInt a (i + 1) (j - 1) (swp (swp d a pv) i j)).1, false, swp (partLoop ltInt a (i + 1) (j - 1) (swp (swp d a pv) i j)).2 (partLoop ltInt a (i + 1) (j - 1) (swp (swp d a pv) i j)).1 a)) := Lib.hid (by
    rintro i j rfl rfl; rfl)
  obtain ⟨G, hG⟩ : ∃ G : Nat → Int, ∀ t, G t = d[t]! := ⟨fun t => d[t]!, fun _ => rfl⟩
  have HG := Lib.hid hG; clear hG
  go_enter Try.func67, Try.ntmps67
  have hcw : ∀ t, t < N → w.cell? ⟨blk, off + t, none⟩ = some (.int .u64 (G t)) := fun t ht => by rw [HG.out]; exact P0.out.row.cell (by rw [HN.out]; exact ht)
  have hfw : ∀ t, t < N → w.frozen? ⟨blk, off + t, none⟩ = false := fun t _ => P0.out.row.frozen t
  have hcs := P0.out.cell_swap (i := a) (j := pv) (by rw [HN.out]; omega) (by rw [HN.out]; omega)
  rw [← HG.out] at hcs
  have hiN : a < N := by omega
  have hjN : pv < N := by omega
  go_upto_region 1 with (fail)
  go_region
  have hnew := (P0.out.swap (i := a) (j := pv) (by rw [HN.out]; omega) (by rw [HN.out]; omega)).drew
  rw [← HG.out, ← HG.out] at hnew
  clear hcs hcw hfw
  generalize ((w.setCell ⟨blk, off + a, none⟩ (.int .u64 (G pv))).setCell ⟨blk, off + pv, none⟩ (.int .u64 (G a))).drew = W1 at hnew ⊢
  have HP1 := Lib.hid hnew; clear hnew hiN hjN
  obtain ⟨d1, hd1⟩ : ∃ d1, d1 = swp d a pv := ⟨_, rfl⟩
  have HS1 : Hid (d1.size = N) := Lib.hid (by rw [hd1, size_swp]; exact HN.out)
  rw [← hd1] at HP1 HE
  clear hd1 HG HN P0
  obtain ⟨G1, hG⟩ : ∃ G : Nat → Int, ∀ t, G t = d1[t]! := ⟨fun t => d1[t]!, fun _ => rfl⟩
  have HG1 := Lib.hid hG; clear hG
  go_upto_block 0 with (fail)
  go_cut [10] (fun vi wx => ∃ q : Nat, vi = .int .i64 (q : Int) ∧ q = scanUp (fun x => ltInt x d1[a]!) d1 b (a + 1) ∧ ((a + 1) ≤ q ∧ q ≤ N) ∧ Pt hd tl blk off d1 w wx)
  case first =>
    go_wp2_with fail
    go_loopg [10] (N + 1 - (a + 1)) (fun k vi wr => ∃ q : Nat, vi = .int .i64 (q : Int) ∧ k = N + 1 - q ∧ ((a + 1) ≤ q ∧ q ≤ N) ∧ scanUp (fun x => ltInt x d1[a]!) d1 b q = scanUp (fun x => ltInt x d1[a]!) d1 b (a + 1) ∧ Pt hd tl blk off d1 w wr)
    case atStart => exact ⟨(a + 1), by go_num, rfl, ⟨by omega, by omega⟩, rfl, HP1.out⟩
    case round =>
      obtain ⟨q, rfl, rfl, ⟨hq1, hq2⟩, hq3, hq4⟩ := hrel
      have HQ3 := Lib.hid hq3; clear hq3
      have hcw : ∀ t, t < N → wr.cell? ⟨blk, off + t, none⟩ = some (.int .u64 (G1 t)) := fun t ht => by rw [HG1.out]; exact hq4.row.cell (by rw [HS1.out]; exact ht)
      have HQ4 := Lib.hid hq4; clear hq4
      have HLe := Lib.hid less_q
      by_cases hle : q ≤ b
      · have hleZ : (q : Int) ≤ (b : Int) := by omega
        have hqN : q < N := by omega
        cases hl : ltInt (G1 q) (G1 a)
        · skip
          go_wp2
          go_quiet ((go_at_call 65; with_reducible exact HLe.out _ _ _ _))
          go_wp2
          go_meet
          case rel => exact ⟨q, rfl, by rw [← HQ3.out]; exact (up_off (.inr (by have e := hl; rw [HG1.out, HG1.out] at e; simp [e]))).symm, ⟨hq1, hq2⟩, HQ4.out.drewN _⟩
        · skip
          go_wp2
          go_quiet ((go_at_call 65; with_reducible exact HLe.out _ _ _ _))
          go_wp2
          go_roundg (N + 1 - (q + 1))
          case measure => omega
          case rel => exact ⟨q + 1, by go_num, rfl, ⟨by omega, by omega⟩, by rw [← HQ3.out]; exact (up_on hle (by have e := hl; rw [HG1.out, HG1.out] at e; simp [e])).symm, HQ4.out.drewN _⟩
      · have hleB : decide ((q : Int) ≤ (b : Int)) = false := by simp; omega
        go_wp2
        go_quiet ((go_at_call 65; with_reducible exact HLe.out _ _ _ _))
        go_wp2
        go_meet
        case rel => exact ⟨q, rfl, by rw [← HQ3.out]; exact (up_off (.inl hle)).symm, ⟨hq1, hq2⟩, HQ4.out.drewN _⟩
  case rest =>
    obtain ⟨i1, rfl, h1, ⟨hb1i1, hb2i1⟩, h2⟩ := hcut
    have Hi1 := Lib.hid h1; clear h1
    have HPi1 := Lib.hid h2; clear h2
    go_upto_block 2 with (fail)
    go_cut [11] (fun vi wx => ∃ q : Nat, vi = .int .i64 (q : Int) ∧ q = scanDown (fun x => !ltInt x d1[a]!) d1 i1 b ∧ (a ≤ q ∧ q ≤ b) ∧ Pt hd tl blk off d1 w wx)
    case first =>
      go_wp2_with fail
      go_loopg [11] (b + 1) (fun k vi wr => ∃ q : Nat, vi = .int .i64 (q : Int) ∧ k = q + 1 ∧ (a ≤ q ∧ q ≤ b) ∧ scanDown (fun x => !ltInt x d1[a]!) d1 i1 q = scanDown (fun x => !ltInt x d1[a]!) d1 i1 b ∧ Pt hd tl blk off d1 w wr)
      case atStart => exact ⟨b, rfl, rfl, ⟨by omega, by omega⟩, rfl, HPi1.out⟩
      case round =>
        obtain ⟨q, rfl, rfl, ⟨hq1, hq2⟩, hq3, hq4⟩ := hrel
        have HQ3 := Lib.hid hq3; clear hq3
        have hcw : ∀ t, t < N → wr.cell? ⟨blk, off + t, none⟩ = some (.int .u64 (G1 t)) := fun t ht => by rw [HG1.out]; exact hq4.row.cell (by rw [HS1.out]; exact ht)
        have HQ4 := Lib.hid hq4; clear hq4
        have HLe := Lib.hid less_q
        by_cases hle : i1 ≤ q
        · have hleZ : (i1 : Int) ≤ (q : Int) := by omega
          have hqN : q < N := by omega
          have hq0 : 1 ≤ q := by omega
          have eq1 : (q : Int) - 1 = ((q - 1 : Nat) : Int) := by omega
          have Eq1 := Lib.hid eq1; clear eq1
          cases hl : ltInt (G1 q) (G1 a)
          · skip
            go_wp2
            go_quiet ((go_at_call 65; with_reducible exact HLe.out _ _ _ _))
            go_wp2
            go_roundg (q - 1 + 1)
            case measure => omega
            case rel => exact ⟨q - 1, by rw [Eq1.out], rfl, ⟨by omega, by omega⟩, by rw [← HQ3.out]; exact (down_on hq0 hle (by have e := hl; rw [HG1.out, HG1.out] at e; simp [e])).symm, HQ4.out.drewN _⟩
          · skip
            go_wp2
            go_quiet ((go_at_call 65; with_reducible exact HLe.out _ _ _ _))
            go_wp2
            go_meet
            case rel => exact ⟨q, rfl, by rw [← HQ3.out]; exact (down_off (.inr (by have e := hl; rw [HG1.out, HG1.out] at e; simp [e]))).symm, ⟨hq1, hq2⟩, HQ4.out.drewN _⟩
        · have hleB : decide ((i1 : Int) ≤ (q : Int)) = false := by simp; omega
          go_wp2
          go_quiet ((go_at_call 65; with_reducible exact HLe.out _ _ _ _))
          go_wp2
          go_meet
          case rel => exact ⟨q, rfl, by rw [← HQ3.out]; exact (down_off (.inl hle)).symm, ⟨hq1, hq2⟩, HQ4.out.drewN _⟩
    case rest =>
      obtain ⟨j1, rfl, h1, ⟨hb1j1, hb2j1⟩, h2⟩ := hcut
      have Hj1 := Lib.hid h1; clear h1
      have HPj1 := Lib.hid h2; clear h2
      have HE1 := Lib.hid (HE.out i1 j1 Hi1.out Hj1.out); clear HE Hi1 Hj1
      by_cases hgt : j1 < i1
      · have hgtZ : (j1 : Int) < (i1 : Int) := by omega
        have hcw : ∀ t, t < N → wc.cell? ⟨blk, off + t, none⟩ = some (.int .u64 (G1 t)) := fun t ht => by rw [HG1.out]; exact HPj1.out.row.cell (by rw [HS1.out]; exact ht)
        have hfw : ∀ t, t < N → wc.frozen? ⟨blk, off + t, none⟩ = false := fun t _ => HPj1.out.row.frozen t
        have hcs := HPj1.out.cell_swap (i := j1) (j := a) (by rw [HS1.out]; omega) (by rw [HS1.out]; omega)
        rw [← HG1.out] at hcs
        have hiN : j1 < N := by omega
        have hjN : a < N := by omega
        go_upto_region 8 with (fail)
        go_region
        have hnew := (HPj1.out.swap (i := j1) (j := a) (by rw [HS1.out]; omega) (by rw [HS1.out]; omega)).drew
        rw [← HG1.out, ← HG1.out] at hnew
        clear hcs hcw hfw
        generalize ((wc.setCell ⟨blk, off + j1, none⟩ (.int .u64 (G1 a))).setCell ⟨blk, off + a, none⟩ (.int .u64 (G1 j1))).drew = W2 at hnew ⊢
        have HP2 := Lib.hid hnew; clear hnew hiN hjN
        go_wp2
        go_ret2
        have e := HE1.out
        rw [if_pos hgt] at e
        rw [e]
        exact ⟨rfl, HP2.out⟩
      · have hgtB : decide ((j1 : Int) < (i1 : Int)) = false := by simp; omega
        have e := HE1.out
        rw [if_neg hgt] at e
        have HE2 := Lib.hid e; clear e HE1
        have hcw : ∀ t, t < N → wc.cell? ⟨blk, off + t, none⟩ = some (.int .u64 (G1 t)) := fun t ht => by rw [HG1.out]; exact HPj1.out.row.cell (by rw [HS1.out]; exact ht)
        have hfw : ∀ t, t < N → wc.frozen? ⟨blk, off + t, none⟩ = false := fun t _ => HPj1.out.row.frozen t
        have hcs := HPj1.out.cell_swap (i := i1) (j := j1) (by rw [HS1.out]; omega) (by rw [HS1.out]; omega)
        rw [← HG1.out] at hcs
        have hiN : i1 < N := by omega
        have hjN : j1 < N := by omega
        go_upto_region 10 with (fail)
        go_region
        have hnew := (HPj1.out.swap (i := i1) (j := j1) (by rw [HS1.out]; omega) (by rw [HS1.out]; omega)).drew
        rw [← HG1.out, ← HG1.out] at hnew
        clear hcs hcw hfw
        generalize ((wc.setCell ⟨blk, off + i1, none⟩ (.int .u64 (G1 j1))).setCell ⟨blk, off + j1, none⟩ (.int .u64 (G1 i1))).drew = W2 at hnew ⊢
        have HP2 := Lib.hid hnew; clear hnew hiN hjN
        obtain ⟨d2, hd2⟩ : ∃ d2, d2 = swp d1 i1 j1 := ⟨_, rfl⟩
        have HS2 : Hid (d2.size = N) := Lib.hid (by rw [hd2, size_swp]; exact HS1.out)
        rw [← hd2] at HP2 HE2
        clear hd2 HG1 HS1 HPj1 HPi1 HP1
        obtain ⟨j0, rfl⟩ : ∃ j0, j1 = j0 + 1 := ⟨j1 - 1, by omega⟩
        go_wp2_with fail
        go_loopg [10, 11] (j0 + 1 - (i1 + 1)) (fun k vi vj wr => ∃ (i j : Nat) (dk : Array Int), vi = .int .i64 (i : Int) ∧ vj = .int .i64 (j : Int) ∧ k = j + 1 - i ∧ (a < i ∧ i ≤ N ∧ a ≤ j ∧ j < N) ∧ dk.size = N ∧ Pt hd tl blk off dk w wr ∧ partLoop ltInt a i j dk = partLoop ltInt a (i1 + 1) j0 d2)
        case atStart => exact ⟨i1 + 1, j0, d2, by go_num, by go_num, rfl, ⟨by omega, by omega, by omega, by omega⟩, HS2.out, HP2.out, rfl⟩
        case round =>
          obtain ⟨i, j, dk, rfl, rfl, rfl, ⟨hi1, hi2, hj1, hj2⟩, hsk, hpk, hO⟩ := hrel
          have HO := Lib.hid hO; clear hO
          have HSk := Lib.hid hsk; clear hsk
          have HPk := Lib.hid hpk; clear hpk HP2
          obtain ⟨Gk, hG⟩ : ∃ G : Nat → Int, ∀ t, G t = dk[t]! := ⟨fun t => dk[t]!, fun _ => rfl⟩
          have HGk := Lib.hid hG; clear hG
          go_upto_block 6 with (fail)
          go_cut [10] (fun vi wx => ∃ q : Nat, vi = .int .i64 (q : Int) ∧ q = scanUp (fun x => ltInt x dk[a]!) dk j i ∧ (i ≤ q ∧ q ≤ N) ∧ Pt hd tl blk off dk w wx)
          case first =>
            go_wp2_with fail
            go_loopg [10] (N + 1 - i) (fun k vi wr => ∃ q : Nat, vi = .int .i64 (q : Int) ∧ k = N + 1 - q ∧ (i ≤ q ∧ q ≤ N) ∧ scanUp (fun x => ltInt x dk[a]!) dk j q = scanUp (fun x => ltInt x dk[a]!) dk j i ∧ Pt hd tl blk off dk w wr)
            case atStart => exact ⟨i, rfl, rfl, ⟨by omega, by omega⟩, rfl, HPk.out⟩
            case round =>
              obtain ⟨q, rfl, rfl, ⟨hq1, hq2⟩, hq3, hq4⟩ := hrel
              have HQ3 := Lib.hid hq3; clear hq3
              have hcw : ∀ t, t < N → wr.cell? ⟨blk, off + t, none⟩ = some (.int .u64 (Gk t)) := fun t ht => by rw [HGk.out]; exact hq4.row.cell (by rw [HSk.out]; exact ht)
              have HQ4 := Lib.hid hq4; clear hq4
              have HLe := Lib.hid less_q
              by_cases hle : q ≤ j
              · have hleZ : (q : Int) ≤ (j : Int) := by omega
                have hqN : q < N := by omega
                cases hl : ltInt (Gk q) (Gk a)
                · skip
                  go_wp2
                  go_quiet ((go_at_call 65; with_reducible exact HLe.out _ _ _ _))
                  go_wp2
                  go_meet
                  case rel => exact ⟨q, rfl, by rw [← HQ3.out]; exact (up_off (.inr (by have e := hl; rw [HGk.out, HGk.out] at e; simp [e]))).symm, ⟨hq1, hq2⟩, HQ4.out.drewN _⟩
                · skip
                  go_wp2
                  go_quiet ((go_at_call 65; with_reducible exact HLe.out _ _ _ _))
                  go_wp2
                  go_roundg (N + 1 - (q + 1))
                  case measure => omega
                  case rel => exact ⟨q + 1, by go_num, rfl, ⟨by omega, by omega⟩, by rw [← HQ3.out]; exact (up_on hle (by have e := hl; rw [HGk.out, HGk.out] at e; simp [e])).symm, HQ4.out.drewN _⟩
              · have hleB : decide ((q : Int) ≤ (j : Int)) = false := by simp; omega
                go_wp2
                go_quiet ((go_at_call 65; with_reducible exact HLe.out _ _ _ _))
                go_wp2
                go_meet
                case rel => exact ⟨q, rfl, by rw [← HQ3.out]; exact (up_off (.inl hle)).symm, ⟨hq1, hq2⟩, HQ4.out.drewN _⟩
          case rest =>
            obtain ⟨i2, rfl, h1, ⟨hb1i2, hb2i2⟩, h2⟩ := hcut
            have Hi2 := Lib.hid h1; clear h1
            have HPi2 := Lib.hid h2; clear h2
            go_upto_block 8 with (fail)
            go_cut [11] (fun vi wx => ∃ q : Nat, vi = .int .i64 (q : Int) ∧ q = scanDown (fun x => !ltInt x dk[a]!) dk i2 j ∧ (a ≤ q ∧ q ≤ j) ∧ Pt hd tl blk off dk w wx)
            case first =>
              go_wp2_with fail
              go_loopg [11] (j + 1) (fun k vi wr => ∃ q : Nat, vi = .int .i64 (q : Int) ∧ k = q + 1 ∧ (a ≤ q ∧ q ≤ j) ∧ scanDown (fun x => !ltInt x dk[a]!) dk i2 q = scanDown (fun x => !ltInt x dk[a]!) dk i2 j ∧ Pt hd tl blk off dk w wr)
              case atStart => exact ⟨j, rfl, rfl, ⟨by omega, by omega⟩, rfl, HPi2.out⟩
              case round =>
                obtain ⟨q, rfl, rfl, ⟨hq1, hq2⟩, hq3, hq4⟩ := hrel
                have HQ3 := Lib.hid hq3; clear hq3
                have hcw : ∀ t, t < N → wr.cell? ⟨blk, off + t, none⟩ = some (.int .u64 (Gk t)) := fun t ht => by rw [HGk.out]; exact hq4.row.cell (by rw [HSk.out]; exact ht)
                have HQ4 := Lib.hid hq4; clear hq4
                have HLe := Lib.hid less_q
                by_cases hle : i2 ≤ q
                · have hleZ : (i2 : Int) ≤ (q : Int) := by omega
                  have hqN : q < N := by omega
                  have hq0 : 1 ≤ q := by omega
                  have eq1 : (q : Int) - 1 = ((q - 1 : Nat) : Int) := by omega
                  have Eq1 := Lib.hid eq1; clear eq1
                  cases hl : ltInt (Gk q) (Gk a)
                  · skip
                    go_wp2
                    go_quiet ((go_at_call 65; with_reducible exact HLe.out _ _ _ _))
                    go_wp2
                    go_roundg (q - 1 + 1)
                    case measure => omega
                    case rel => exact ⟨q - 1, by rw [Eq1.out], rfl, ⟨by omega, by omega⟩, by rw [← HQ3.out]; exact (down_on hq0 hle (by have e := hl; rw [HGk.out, HGk.out] at e; simp [e])).symm, HQ4.out.drewN _⟩
                  · skip
                    go_wp2
                    go_quiet ((go_at_call 65; with_reducible exact HLe.out _ _ _ _))
                    go_wp2
                    go_meet
                    case rel => exact ⟨q, rfl, by rw [← HQ3.out]; exact (down_off (.inr (by have e := hl; rw [HGk.out, HGk.out] at e; simp [e]))).symm, ⟨hq1, hq2⟩, HQ4.out.drewN _⟩
                · have hleB : decide ((i2 : Int) ≤ (q : Int)) = false := by simp; omega
                  go_wp2
                  go_quiet ((go_at_call 65; with_reducible exact HLe.out _ _ _ _))
                  go_wp2
                  go_meet
                  case rel => exact ⟨q, rfl, by rw [← HQ3.out]; exact (down_off (.inl hle)).symm, ⟨hq1, hq2⟩, HQ4.out.drewN _⟩
            case rest =>
              obtain ⟨j2, rfl, h1, ⟨hb1j2, hb2j2⟩, h2⟩ := hcut
              have Hj2 := Lib.hid h1; clear h1
              have HPj2 := Lib.hid h2; clear h2
              have hle0 : i ≤ i2 := hb1i2
              have hle1 : j2 ≤ j := hb2j2
              have e := HO.out
              rw [partLoop_eq, ← Hi2.out, ← Hj2.out] at e
              have HO2 := Lib.hid e; clear e HO Hi2 Hj2
              by_cases hgt : j2 < i2
              · have hgtZ : (j2 : Int) < (i2 : Int) := by omega
                have hcw : ∀ t, t < N → wc.cell? ⟨blk, off + t, none⟩ = some (.int .u64 (Gk t)) := fun t ht => by rw [HGk.out]; exact HPj2.out.row.cell (by rw [HSk.out]; exact ht)
                have hfw : ∀ t, t < N → wc.frozen? ⟨blk, off + t, none⟩ = false := fun t _ => HPj2.out.row.frozen t
                have hcs := HPj2.out.cell_swap (i := j2) (j := a) (by rw [HSk.out]; omega) (by rw [HSk.out]; omega)
                rw [← HGk.out] at hcs
                have hiN : j2 < N := by omega
                have hjN : a < N := by omega
                go_upto_region 21 with (fail)
                go_region
                have hnew := (HPj2.out.swap (i := j2) (j := a) (by rw [HSk.out]; omega) (by rw [HSk.out]; omega)).drew
                rw [← HGk.out, ← HGk.out] at hnew
                clear hcs hcw hfw
                generalize ((wc.setCell ⟨blk, off + j2, none⟩ (.int .u64 (Gk a))).setCell ⟨blk, off + a, none⟩ (.int .u64 (Gk j2))).drew = W3 at hnew ⊢
                have HP3 := Lib.hid hnew; clear hnew hiN hjN
                go_wp2
                go_ret2
                have e := HO2.out
                rw [if_pos hgt] at e
                have e2 := HE2.out
                rw [show j0 + 1 - 1 = j0 from rfl, ← e] at e2
                rw [e2]
                exact ⟨rfl, HP3.out⟩
              · have hgtB : decide ((j2 : Int) < (i2 : Int)) = false := by simp; omega
                have hcw : ∀ t, t < N → wc.cell? ⟨blk, off + t, none⟩ = some (.int .u64 (Gk t)) := fun t ht => by rw [HGk.out]; exact HPj2.out.row.cell (by rw [HSk.out]; exact ht)
                have hfw : ∀ t, t < N → wc.frozen? ⟨blk, off + t, none⟩ = false := fun t _ => HPj2.out.row.frozen t
                have hcs := HPj2.out.cell_swap (i := i2) (j := j2) (by rw [HSk.out]; omega) (by rw [HSk.out]; omega)
                rw [← HGk.out] at hcs
                have hiN : i2 < N := by omega
                have hjN : j2 < N := by omega
                go_upto_region 18 with (fail)
                go_region
                have hnew := (HPj2.out.swap (i := i2) (j := j2) (by rw [HSk.out]; omega) (by rw [HSk.out]; omega)).drew
                rw [← HGk.out, ← HGk.out] at hnew
                clear hcs hcw hfw
                generalize ((wc.setCell ⟨blk, off + i2, none⟩ (.int .u64 (Gk j2))).setCell ⟨blk, off + j2, none⟩ (.int .u64 (Gk i2))).drew = W3 at hnew ⊢
                have HP3 := Lib.hid hnew; clear hnew hiN hjN
                obtain ⟨j3, rfl⟩ : ∃ j3, j2 = j3 + 1 := ⟨j2 - 1, by omega⟩
                go_wp2
                go_roundg (j3 + 1 - (i2 + 1))
                case measure => omega
                case rel =>
                  exact ⟨i2 + 1, j3, swp dk i2 (j3 + 1), by go_num, by go_num, rfl, ⟨by omega, by omega, by omega, by omega⟩, by rw [size_swp]; exact HSk.out, HP3.out, by have e := HO2.out; rw [if_neg hgt] at e; exact e⟩
end Go.Proofs.Ythldjdkjgiebaaa.S64
