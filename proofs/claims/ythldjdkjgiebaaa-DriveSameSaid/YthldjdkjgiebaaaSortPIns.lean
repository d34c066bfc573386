/-
  The walk of partialInsertionSortOrdered at words. By an AI agent.
-/
import Derived.Test.YthldjdkjgiebaaaSortPartEq
set_option linter.unusedSimpArgs false
namespace Go.Proofs.Ythldjdkjgiebaaa.S64
open Go.RowKit Go.Sort
variable {hd tl : List Value} {blk off : Nat}
/-- A bool, and the row. -/
def Part2 (hd tl : List Value) (blk off : Nat) (r : Array Int × Bool) (w : World) (e : Ending) (w' : World) : Prop := e = .returned (.bool r.2) ∧ Pt hd tl blk off r.1 w w'
theorem so_on {d : Array Int} {b i : Nat} (h : i + 1 < b) (hp : ltInt d[i + 1]! d[i]! = false) : scanSorted ltInt d b (i + 1) = scanSorted ltInt d b (i + 2) := by
  conv => lhs; rw [scanSorted]
  simp [h, hp]
theorem so_off {d : Array Int} {b i : Nat} (h : ¬ i + 1 < b ∨ ltInt d[i + 1]! d[i]! = true) : scanSorted ltInt d b (i + 1) = i + 1 := by
  rw [scanSorted]
  rcases h with h | h
  · simp [h]
  · simp [h]
theorem sd_on {d : Array Int} {j : Nat} (hp : ltInt d[j + 1]! d[j]! = true) : shiftDown ltInt (j + 1) d = shiftDown ltInt j (swp d (j + 1) j) := by rw [shiftDown]; simp [hp]
theorem sd_off {d : Array Int} {j : Nat} (hp : ltInt d[j + 1]! d[j]! = false) : shiftDown ltInt (j + 1) d = d := by rw [shiftDown]; simp [hp]
theorem su_on {d : Array Int} {b j : Nat} (h : j + 1 < b) (hp : ltInt d[j + 1]! d[j]! = true) : shiftUp ltInt b (j + 1) d = shiftUp ltInt b (j + 2) (swp d (j + 1) j) := by rw [shiftUp]; simp [h, hp]
theorem su_off {d : Array Int} {b j : Nat} (h : ¬ j + 1 < b ∨ ltInt d[j + 1]! d[j]! = false) : shiftUp ltInt b (j + 1) d = d := by
  rw [shiftUp]
  rcases h with h | h
  · simp [h]
  · by_cases h2 : j + 1 < b <;> simp [h, h2]
set_option maxRecDepth 100000 in
set_option maxHeartbeats 4000000 in
theorem pins_any (cap a b N : Nat) (d : Array Int) (w : World) (hR : Rw hd tl blk off w d) (hN : d.size = N) (hab : a < b) (hb : b ≤ N) (hsz : N ≤ 1000000) :
    Calls Try.prog 64 #[.slice (some ⟨blk, off, none⟩) N cap, .int .i64 (a : Int), .int .i64 (b : Int)] w (Part2 hd tl blk off (partialInsertionSort ltInt d a b) w) := by
  have P0 := Lib.hid hR.refl; clear hR
  have HN := Lib.hid hN; clear hN
  have HLe := Lib.hid less_q
  go_enter Try.func64, Try.ntmps64
  go_wp2_with fail
  go_loopg [7, 8] 5 (fun k vi vt wr => ∃ (i t : Nat) (dk : Array Int), vi = .int .i64 (i : Int) ∧ vt = .int .i64 (t : Int) ∧ k = 5 - t ∧ (t ≤ 5 ∧ a < i ∧ i ≤ b) ∧ dk.size = N ∧ Pt hd tl blk off dk w wr ∧ partialIns ltInt a b (5 - t) i dk = partialInsertionSort ltInt d a b)
  case atStart => exact ⟨a + 1, 0, d, by go_num, rfl, rfl, ⟨by omega, by omega, by omega⟩, HN.out, P0.out, rfl⟩
  case round =>
    obtain ⟨i, t, dk, rfl, rfl, rfl, ⟨ht5, hai, hib⟩, hsk, hpk, hO⟩ := hrel
    have HO := Lib.hid hO; clear hO
    have HSk := Lib.hid hsk; clear hsk
    have HPk := Lib.hid hpk; clear hpk
    by_cases htl : t < 5
    · have htZ : (t : Int) < 5 := by omega
      obtain ⟨s, hs⟩ : ∃ s, 5 - t = s + 1 := ⟨5 - t - 1, by omega⟩
      have e := HO.out
      rw [hs, partialIns_succ] at e
      have HO1 := Lib.hid e; clear e HO
      have Hs := Lib.hid hs; clear hs
      obtain ⟨G, hG⟩ : ∃ G : Nat → Int, ∀ t, G t = dk[t]! := ⟨fun t => dk[t]!, fun _ => rfl⟩
      have HG := Lib.hid hG; clear hG
      go_upto_block 2 with (fail)
      go_cut [7] (fun vi wx => ∃ q : Nat, vi = .int .i64 (q : Int) ∧ q = scanSorted ltInt dk b i ∧ (i ≤ q ∧ q ≤ b) ∧ Pt hd tl blk off dk w wx)
      case first =>
        go_wp2_with fail
        go_loopg [7] (b + 1 - i) (fun k vi wr => ∃ q : Nat, vi = .int .i64 (q : Int) ∧ k = b + 1 - q ∧ (i ≤ q ∧ q ≤ b) ∧ scanSorted ltInt dk b q = scanSorted ltInt dk b i ∧ Pt hd tl blk off dk w wr)
        case atStart => exact ⟨i, rfl, rfl, ⟨Nat.le_refl _, hib⟩, rfl, HPk.out⟩
        case round =>
          obtain ⟨q, rfl, rfl, ⟨hq1, hq2⟩, hq3, hq4⟩ := hrel
          obtain ⟨p, rfl⟩ : ∃ p, q = p + 1 := ⟨q - 1, by omega⟩
          have HQ3 := Lib.hid hq3; clear hq3
          have hcw : ∀ t, t < N → wr.cell? ⟨blk, off + t, none⟩ = some (.int .u64 (G t)) := fun t ht => by rw [HG.out]; exact hq4.row.cell (by rw [HSk.out]; exact ht)
          have HQ4 := Lib.hid hq4; clear hq4
          by_cases hlt : p + 1 < b
          · have hltZ : (p : Int) + 1 < (b : Int) := by omega
            have hpN : p + 1 < N := by omega
            cases hl : ltInt (G (p + 1)) (G p)
            · go_wp2
              go_quiet ((go_at_call 65; with_reducible exact HLe.out _ _ _ _))
              go_wp2
              go_roundg (b + 1 - (p + 2))
              case measure => omega
              case rel => exact ⟨p + 2, by go_num, rfl, ⟨by omega, by omega⟩, by rw [← HQ3.out]; exact (so_on hlt (by have e := hl; rw [HG.out, HG.out] at e; exact e)).symm, HQ4.out.drewN _⟩
            · go_wp2
              go_quiet ((go_at_call 65; with_reducible exact HLe.out _ _ _ _))
              go_wp2
              go_meet
              case rel => exact ⟨p + 1, by go_num, by rw [← HQ3.out]; exact (so_off (.inr (by have e := hl; rw [HG.out, HG.out] at e; exact e))).symm, ⟨hq1, hq2⟩, HQ4.out.drewN _⟩
          · have hltB : decide ((p : Int) + 1 < (b : Int)) = false := by simp; omega
            go_wp2
            go_quiet ((go_at_call 65; with_reducible exact HLe.out _ _ _ _))
            go_wp2
            go_meet
            case rel => exact ⟨p + 1, by go_num, by rw [← HQ3.out]; exact (so_off (.inl hlt)).symm, ⟨hq1, hq2⟩, HQ4.out.drewN _⟩
      case rest =>
        obtain ⟨q, rfl, h1, ⟨hq1, hq2⟩, h2⟩ := hcut
        have e := HO1.out
        rw [← h1] at e
        have HO2 := Lib.hid e; clear e HO1 h1
        have HP2 := Lib.hid h2; clear h2
        by_cases hqb : q = b
        · have hqB : ((q : Int) == (b : Int)) = true := by simp; omega
          go_wp2
          go_ret
          have e := HO2.out
          rw [if_pos hqb] at e
          rw [← e]
          exact ⟨rfl, HP2.out⟩
        · have hqB : ((q : Int) == (b : Int)) = false := by simp; omega
          have e := HO2.out
          rw [if_neg hqb] at e
          have HO3 := Lib.hid e; clear e HO2
          by_cases h50 : b - a < 50
          · have h50Z : (b : Int) - (a : Int) < 50 := by omega
            go_wp2
            go_ret
            have e := HO3.out
            rw [if_pos h50] at e
            rw [← e]
            exact ⟨rfl, HP2.out⟩
          · have h50Z : ¬ (b : Int) - (a : Int) < 50 := by omega
            have h50B : decide ((b : Int) - (a : Int) < 50) = false := by simp; omega
            have e := HO3.out
            rw [if_neg h50] at e
            have HO4 := Lib.hid e; clear e HO3
            obtain ⟨r, rfl⟩ : ∃ r, q = r + 1 := ⟨q - 1, by omega⟩
            have hqB' : ((r : Int) + 1 == (b : Int)) = false := by simp; omega
            clear hqB
            have hcw : ∀ t, t < N → wc.cell? ⟨blk, off + t, none⟩ = some (.int .u64 (G t)) := fun t ht => by rw [HG.out]; exact HP2.out.row.cell (by rw [HSk.out]; exact ht)
            have hfw : ∀ t, t < N → wc.frozen? ⟨blk, off + t, none⟩ = false := fun t _ => HP2.out.row.frozen t
            have hcs := HP2.out.cell_swap (i := (r + 1)) (j := r) (by rw [HSk.out]; omega) (by rw [HSk.out]; omega)
            rw [← HG.out] at hcs
            have hiN : (r + 1) < N := by omega
            have hjN : r < N := by omega
            go_upto_region 11 with (fail)
            go_region
            have hnew := (HP2.out.swap (i := (r + 1)) (j := r) (by rw [HSk.out]; omega) (by rw [HSk.out]; omega)).drew
            rw [← HG.out, ← HG.out] at hnew
            clear hcs hcw hfw
            generalize ((wc.setCell ⟨blk, off + (r + 1), none⟩ (.int .u64 (G r))).setCell ⟨blk, off + r, none⟩ (.int .u64 (G (r + 1)))).drew = Ws at hnew ⊢
            have HPs := Lib.hid hnew; clear hnew hiN hjN
            obtain ⟨d2, hd2⟩ : ∃ d2, d2 = swp dk (r + 1) r := ⟨_, rfl⟩
            have HS2 : Hid (d2.size = N) := Lib.hid (by rw [hd2, size_swp]; exact HSk.out)
            have HO5 : Hid (partialIns ltInt a b s (r + 1) (fixUp ltInt b (r + 1) (fixDown ltInt a (r + 1) d2)) = partialInsertionSort ltInt d a b) := Lib.hid (by rw [hd2]; exact HO4.out)
            rw [← hd2] at HPs
            clear hd2 HG HPk HP2 HO4
            go_upto_if 61 with (fail)
            go_cut [9] (fun vj wx => ∃ d3 : Array Int, d3 = fixDown ltInt a (r + 1) d2 ∧ d3.size = N ∧ Pt hd tl blk off d3 w wx)
            case first =>
              by_cases h2 : r + 1 - a ≥ 2
              · have h2Z : (2 : Int) ≤ (r : Int) + 1 - (a : Int) := by omega
                go_wp2_with fail
                go_loopg [9] (r + 1) (fun k vj wr => ∃ (q : Nat) (dj : Array Int), vj = .int .i64 (q : Int) ∧ k = q + 1 ∧ q ≤ r ∧ dj.size = N ∧ Pt hd tl blk off dj w wr ∧ shiftDown ltInt q dj = shiftDown ltInt r d2)
                case atStart => exact ⟨r, d2, by go_num, rfl, Nat.le_refl _, HS2.out, HPs.out, rfl⟩
                case round =>
                  obtain ⟨q, dj, rfl, rfl, hqr, hsj, hpj, hI⟩ := hrel
                  have HI := Lib.hid hI; clear hI
                  have HSj := Lib.hid hsj; clear hsj
                  have HPj := Lib.hid hpj; clear hpj
                  cases q with
                  | zero =>
                    go_wp2
                    go_meet
                    case rel => exact ⟨dj, by have e := HI.out; rw [shiftDown] at e; rw [e]; unfold fixDown; rw [if_pos h2]; rfl, HSj.out, HPj.out⟩
                  | succ q =>
                    obtain ⟨Gj, hG⟩ : ∃ G : Nat → Int, ∀ t, G t = dj[t]! := ⟨fun t => dj[t]!, fun _ => rfl⟩
                    have HGj := Lib.hid hG; clear hG
                    cases hl : ltInt (Gj (q + 1)) (Gj q)
                    · have hcw : ∀ t, t < N → wr.cell? ⟨blk, off + t, none⟩ = some (.int .u64 (Gj t)) := fun t ht => by rw [HGj.out]; exact HPj.out.row.cell (by rw [HSj.out]; exact ht)
                      go_wp2
                      go_quiet ((go_at_call 65; with_reducible exact HLe.out _ _ _ _))
                      go_wp2
                      go_meet
                      case rel => exact ⟨dj, by have e := HI.out; rw [sd_off (by have e := hl; rw [HGj.out, HGj.out] at e; exact e)] at e; rw [e]; unfold fixDown; rw [if_pos h2]; rfl, HSj.out, HPj.out.drewN _⟩
                    · have hcw : ∀ t, t < N → wr.cell? ⟨blk, off + t, none⟩ = some (.int .u64 (Gj t)) := fun t ht => by rw [HGj.out]; exact HPj.out.row.cell (by rw [HSj.out]; exact ht)
                      go_wp2
                      go_quiet ((go_at_call 65; with_reducible exact HLe.out _ _ _ _))
                      have HPq := Lib.hid (HPj.out.drewN nq)
                      clear hcw
                      generalize wr.drewN nq = wq at HPq ⊢
                      have hcw : ∀ t, t < N → wq.cell? ⟨blk, off + t, none⟩ = some (.int .u64 (Gj t)) := fun t ht => by rw [HGj.out]; exact HPq.out.row.cell (by rw [HSj.out]; exact ht)
                      have hfw : ∀ t, t < N → wq.frozen? ⟨blk, off + t, none⟩ = false := fun t _ => HPq.out.row.frozen t
                      have hcs := HPq.out.cell_swap (i := (q + 1)) (j := q) (by rw [HSj.out]; omega) (by rw [HSj.out]; omega)
                      rw [← HGj.out] at hcs
                      have hiN : (q + 1) < N := by omega
                      have hjN : q < N := by omega
                      go_upto_region 17 with (fail)
                      go_region
                      have hnew := (HPq.out.swap (i := (q + 1)) (j := q) (by rw [HSj.out]; omega) (by rw [HSj.out]; omega)).drew
                      rw [← HGj.out, ← HGj.out] at hnew
                      clear hcs hcw hfw
                      generalize ((wq.setCell ⟨blk, off + (q + 1), none⟩ (.int .u64 (Gj q))).setCell ⟨blk, off + q, none⟩ (.int .u64 (Gj (q + 1)))).drew = Wt at hnew ⊢
                      have HPt := Lib.hid hnew; clear hnew hiN hjN
                      go_wp2
                      go_roundg (q + 1)
                      case measure => omega
                      case rel => exact ⟨q, swp dj (q + 1) q, by go_num, rfl, by omega, by rw [size_swp]; exact HSj.out, HPt.out, by have e := HI.out; rw [sd_on (by have e := hl; rw [HGj.out, HGj.out] at e; exact e)] at e; exact e⟩
              · have h2Z : ¬ (2 : Int) ≤ (r : Int) + 1 - (a : Int) := by omega
                have h2B : decide ((2 : Int) ≤ (r : Int) + 1 - (a : Int)) = false := by simp; omega
                go_wp2
                go_meet
                case rel => exact ⟨d2, by unfold fixDown; rw [if_neg h2], HS2.out, HPs.out⟩
            case rest =>
              obtain ⟨d3, h3, hs3, hp3⟩ := hcut
              rw [← h3] at HO5
              have HS3 := Lib.hid hs3; clear hs3
              have HP3 := Lib.hid hp3; clear hp3 h3 HPs HS2
              by_cases h2 : b - (r + 1) ≥ 2
              · have h2Z : (2 : Int) ≤ (b : Int) - ((r : Int) + 1) := by omega
                go_wp2_with fail
                go_loopg [10] (b + 1 - (r + 2)) (fun k vj wr => ∃ (q : Nat) (dj : Array Int), vj = .int .i64 (q : Int) ∧ k = b + 1 - q ∧ (1 ≤ q ∧ q ≤ b) ∧ dj.size = N ∧ Pt hd tl blk off dj w wr ∧ shiftUp ltInt b q dj = shiftUp ltInt b (r + 2) d3)
                case atStart => exact ⟨r + 2, d3, by go_num, rfl, ⟨by omega, by omega⟩, HS3.out, HP3.out, rfl⟩
                case round =>
                  obtain ⟨q, dj, rfl, rfl, ⟨hq1, hq2⟩, hsj, hpj, hI⟩ := hrel
                  have HI := Lib.hid hI; clear hI
                  have HSj := Lib.hid hsj; clear hsj
                  have HPj := Lib.hid hpj; clear hpj
                  obtain ⟨q, rfl⟩ : ∃ p, q = p + 1 := ⟨q - 1, by omega⟩
                  by_cases hqb : q + 1 < b
                  · have hqZ : (q : Int) + 1 < (b : Int) := by omega
                    have hqN : q + 1 < N := by omega
                    obtain ⟨Gj, hG⟩ : ∃ G : Nat → Int, ∀ t, G t = dj[t]! := ⟨fun t => dj[t]!, fun _ => rfl⟩
                    have HGj := Lib.hid hG; clear hG
                    cases hl : ltInt (Gj (q + 1)) (Gj q)
                    · have hcw : ∀ t, t < N → wr.cell? ⟨blk, off + t, none⟩ = some (.int .u64 (Gj t)) := fun t ht => by rw [HGj.out]; exact HPj.out.row.cell (by rw [HSj.out]; exact ht)
                      go_wp2
                      go_quiet ((go_at_call 65; with_reducible exact HLe.out _ _ _ _))
                      go_wp2
                      go_roundg s
                      case measure => have := Hs.out; omega
                      case rel =>
                        have e4 : dj = fixUp ltInt b (r + 1) d3 := by have e := HI.out; rw [su_off (.inr (by have e := hl; rw [HGj.out, HGj.out] at e; exact e))] at e; rw [e]; unfold fixUp; rw [if_pos h2]
                        exact ⟨r + 1, t + 1, dj, by go_num, by go_num, by have := Hs.out; omega, ⟨by omega, by omega, by omega⟩, HSj.out, HPj.out.drewN _, by have e := HO5.out; rw [← e4] at e; rw [show 5 - (t + 1) = s by have := Hs.out; omega]; exact e⟩
                    · have hcw : ∀ t, t < N → wr.cell? ⟨blk, off + t, none⟩ = some (.int .u64 (Gj t)) := fun t ht => by rw [HGj.out]; exact HPj.out.row.cell (by rw [HSj.out]; exact ht)
                      go_wp2
                      go_quiet ((go_at_call 65; with_reducible exact HLe.out _ _ _ _))
                      have HPq := Lib.hid (HPj.out.drewN nq)
                      clear hcw
                      generalize wr.drewN nq = wq at HPq ⊢
                      have hcw : ∀ t, t < N → wq.cell? ⟨blk, off + t, none⟩ = some (.int .u64 (Gj t)) := fun t ht => by rw [HGj.out]; exact HPq.out.row.cell (by rw [HSj.out]; exact ht)
                      have hfw : ∀ t, t < N → wq.frozen? ⟨blk, off + t, none⟩ = false := fun t _ => HPq.out.row.frozen t
                      have hcs := HPq.out.cell_swap (i := (q + 1)) (j := q) (by rw [HSj.out]; omega) (by rw [HSj.out]; omega)
                      rw [← HGj.out] at hcs
                      have hiN : (q + 1) < N := by omega
                      have hjN : q < N := by omega
                      go_upto_region 23 with (fail)
                      go_region
                      have hnew := (HPq.out.swap (i := (q + 1)) (j := q) (by rw [HSj.out]; omega) (by rw [HSj.out]; omega)).drew
                      rw [← HGj.out, ← HGj.out] at hnew
                      clear hcs hcw hfw
                      generalize ((wq.setCell ⟨blk, off + (q + 1), none⟩ (.int .u64 (Gj q))).setCell ⟨blk, off + q, none⟩ (.int .u64 (Gj (q + 1)))).drew = Wt at hnew ⊢
                      have HPt := Lib.hid hnew; clear hnew hiN hjN
                      go_wp2
                      go_roundg (b + 1 - (q + 2))
                      case measure => omega
                      case rel => exact ⟨q + 2, swp dj (q + 1) q, by go_num, rfl, ⟨by omega, by omega⟩, by rw [size_swp]; exact HSj.out, HPt.out, by have e := HI.out; rw [su_on hqb (by have e := hl; rw [HGj.out, HGj.out] at e; exact e)] at e; exact e⟩
                  · have hqZ : ¬ (q : Int) + 1 < (b : Int) := by omega
                    have hqB2 : decide ((q : Int) + 1 < (b : Int)) = false := by simp; omega
                    go_wp2
                    go_roundg s
                    case measure => have := Hs.out; omega
                    case rel =>
                      have e4 : dj = fixUp ltInt b (r + 1) d3 := by have e := HI.out; rw [su_off (.inl hqb)] at e; rw [e]; unfold fixUp; rw [if_pos h2]
                      exact ⟨r + 1, t + 1, dj, by go_num, by go_num, by have := Hs.out; omega, ⟨by omega, by omega, by omega⟩, HSj.out, HPj.out, by have e := HO5.out; rw [← e4] at e; rw [show 5 - (t + 1) = s by have := Hs.out; omega]; exact e⟩
              · have h2Z : ¬ (2 : Int) ≤ (b : Int) - ((r : Int) + 1) := by omega
                have h2B : decide ((2 : Int) ≤ (b : Int) - ((r : Int) + 1)) = false := by simp; omega
                go_wp2
                go_roundg s
                case measure => have := Hs.out; omega
                case rel =>
                  have e4 : d3 = fixUp ltInt b (r + 1) d3 := by unfold fixUp; rw [if_neg h2]
                  exact ⟨r + 1, t + 1, d3, by go_num, by go_num, by have := Hs.out; omega, ⟨by omega, by omega, by omega⟩, HS3.out, HP3.out, by have e := HO5.out; rw [← e4] at e; rw [show 5 - (t + 1) = s by have := Hs.out; omega]; exact e⟩
    · have htB : decide ((t : Int) < 5) = false := by simp; omega
      go_wp2
      go_ret
      have e := HO.out
      rw [show 5 - t = 0 by omega, partialIns] at e
      rw [← e]
      exact ⟨rfl, HPk.out⟩
end Go.Proofs.Ythldjdkjgiebaaa.S64
