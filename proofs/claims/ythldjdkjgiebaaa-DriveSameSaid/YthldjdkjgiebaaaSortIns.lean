/-
  The walks of insertionSortOrdered and reverseRangeOrdered at words. By an AI agent.
-/
import Derived.Test.YthldjdkjgiebaaaSortParts
set_option linter.unusedSimpArgs false
namespace Go.Proofs.Ythldjdkjgiebaaa.S64
open Go.RowKit Go.Sort
theorem inner_on {a j : Nat} {d : Array Int} (h : a ≤ j) (hl : ltInt d[j + 1]! d[j]! = true) : insInner ltInt a (j + 1) d = insInner ltInt a j (swp d (j + 1) j) := by
  have : a < j + 1 := by omega
  rw [insInner]; simp [this, hl]
theorem inner_off {a j : Nat} {d : Array Int} (h : ltInt d[j + 1]! d[j]! = false) : insInner ltInt a (j + 1) d = d := by
  rw [insInner]; simp [h]
theorem inner_end {a j : Nat} {d : Array Int} (h : j ≤ a) : insInner ltInt a j d = d := by
  cases j with
  | zero => rw [insInner]
  | succ k => rw [insInner]; simp [show ¬ a < k + 1 by omega]
theorem outer_on {a b i : Nat} {d : Array Int} (h : i < b) : insOuter ltInt a b i d = insOuter ltInt a b (i + 1) (insInner ltInt a i d) := by rw [insOuter, if_pos h]
theorem outer_off {a b i : Nat} {d : Array Int} (h : ¬ i < b) : insOuter ltInt a b i d = d := by rw [insOuter, if_neg h]
theorem rev_on {i j : Nat} {d : Array Int} (h : i < j) : reverseLoop i j d = reverseLoop (i + 1) (j - 1) (swp d i j) := by rw [reverseLoop, if_pos h]
theorem rev_off {i j : Nat} {d : Array Int} (h : ¬ i < j) : reverseLoop i j d = d := by rw [reverseLoop, if_neg h]
variable {hd tl : List Value} {blk off : Nat}
set_option maxRecDepth 100000 in
set_option maxHeartbeats 2000000 in
theorem ins_any (cap a b N : Nat) (d : Array Int) (w : World) (hR : Rw hd tl blk off w d) (hN : d.size = N) (hab : a ≤ b) (hb : b ≤ N) (hsz : N ≤ 1000000) :
    Calls Try.prog 59 #[.slice (some ⟨blk, off, none⟩) N cap, .int .i64 (a : Int), .int .i64 (b : Int)] w (Puts hd tl blk off (insertionSort ltInt d a b) w) := by
  have P0 := Lib.hid hR.refl; clear hR
  have HN := Lib.hid hN; clear hN
  go_enter Try.func59, Try.ntmps59
  go_wp2
  go_loopw [6] (fun vi wr => ∃ (i : Nat) (dk : Array Int), vi = .int .i64 i ∧ a < i ∧ i ≤ b + 1 ∧ dk.size = N ∧ Pt hd tl blk off dk w wr ∧ insOuter ltInt a b i dk = insertionSort ltInt d a b) (fun vi _ => b + 1 - (intOf vi).toNat)
  case atStart => exact ⟨a + 1, d, by go_num, by omega, by omega, HN.out, P0.out, rfl⟩
  case round =>
    obtain ⟨i, dk, rfl, hai, hib, hsk, hpk, hO⟩ := hrel
    have HO := Lib.hid hO; clear hO
    have HSk := Lib.hid hsk; clear hsk
    have HPk := Lib.hid hpk; clear hpk
    by_cases hlt : i < b
    · have hltZ : (i : Int) < (b : Int) := by omega
      go_wp2
      go_loopw [7] (fun vj wr => ∃ (j : Nat) (dj : Array Int), vj = .int .i64 j ∧ a ≤ j ∧ j ≤ i ∧ dj.size = N ∧ Pt hd tl blk off dj w wr ∧ insInner ltInt a j dj = insInner ltInt a i dk) (fun vj _ => (intOf vj).toNat)
      case atStart => exact ⟨i, dk, rfl, by omega, Nat.le_refl _, HSk.out, HPk.out, rfl⟩
      case round =>
        obtain ⟨j, dj, rfl, haj, hji, hsj, hpj, hI⟩ := hrel
        have HI := Lib.hid hI; clear hI
        by_cases hja : a < j
        · obtain ⟨q, rfl⟩ : ∃ q, j = q + 1 := ⟨j - 1, by omega⟩
          obtain ⟨G, hG⟩ : ∃ G : Nat → Int, ∀ t, G t = dj[t]! := ⟨fun t => dj[t]!, fun _ => rfl⟩
          have hcw : ∀ t, t < N → wr.cell? ⟨blk, off + t, none⟩ = some (.int .u64 (G t)) := fun t ht => by rw [hG]; exact hpj.row.cell (by omega)
          have hfw : ∀ t, t < N → wr.frozen? ⟨blk, off + t, none⟩ = false := fun t _ => hpj.row.frozen t
          have HG := Lib.hid hG; clear hG
          have HSj := Lib.hid hsj; clear hsj
          have HPj := Lib.hid hpj; clear hpj
          have hq1 : q + 1 < N := by omega
          have hjaZ : (a : Int) < (q : Int) + 1 := by omega
          have HQ := Lib.hid less_q
          cases hl : ltInt (G (q + 1)) (G q)
          · go_wp2
            go_quiet ((go_at_call 65; with_reducible exact HQ.out _ _ _ _))
            go_wp2
            go_roundw
            case rel => exact ⟨i + 1, dj, by go_num, by omega, by omega, HSj.out, HPj.out.drewN _, by rw [← HO.out, outer_on hlt, ← HI.out, inner_off (by rw [← HG.out, ← HG.out]; exact hl)]⟩
            case measure => first | (simp [intOf]; done) | (simp [intOf]; omega)
          · go_wp2
            go_quiet ((go_at_call 65; with_reducible exact HQ.out _ _ _ _))
            go_wp2
            go_region
            all_goals go_wp2
            all_goals go_roundw
            case rel =>
              refine ⟨q, swp dj (q + 1) q, by go_num, by omega, by omega, by rw [size_swp]; exact HSj.out, ?_, by rw [← HI.out, inner_on (by omega) (by rw [← HG.out, ← HG.out]; exact hl)]⟩
              rw [HG.out, HG.out]
              exact ((HPj.out.drewN _).drew).swap (by rw [HSj.out]; omega) (by rw [HSj.out]; omega)
            case measure => first | (simp [intOf]; done) | (simp [intOf]; omega)
        · have HQ := Lib.hid less_q
          have HSj := Lib.hid hsj; clear hsj
          have HPj := Lib.hid hpj; clear hpj
          go_wp2
          go_quiet ((go_at_call 65; with_reducible exact HQ.out _ _ _ _))
          go_wp2
          go_roundw
          case rel => exact ⟨i + 1, dj, by go_num, by omega, by omega, HSj.out, HPj.out.drewN _, by rw [← HO.out, outer_on hlt, ← HI.out, inner_end (by omega)]⟩
          case measure => first | (simp [intOf]; done) | (simp [intOf]; omega)
    · go_wp2
      go_end0
      exact ⟨rfl, by have := HO.out; rw [outer_off hlt] at this; rw [← this]; exact HPk.out⟩
set_option maxRecDepth 100000 in
set_option maxHeartbeats 2000000 in
theorem rev_any (cap a b N : Nat) (d : Array Int) (w : World) (hR : Rw hd tl blk off w d) (hN : d.size = N) (hab : a < b) (hb : b ≤ N) (hsz : N ≤ 1000000) :
    Calls Try.prog 63 #[.slice (some ⟨blk, off, none⟩) N cap, .int .i64 (a : Int), .int .i64 (b : Int)] w (Puts hd tl blk off (reverseRange d a b) w) := by
  have P0 := Lib.hid hR.refl; clear hR
  have HN := Lib.hid hN; clear hN
  obtain ⟨b', rfl⟩ : ∃ b', b = b' + 1 := ⟨b - 1, by omega⟩
  go_enter Try.func63, Try.ntmps63
  go_wp2
  go_loopw [6, 7] (fun vi vj wr => ∃ (i j : Nat) (dk : Array Int), vi = .int .i64 i ∧ vj = .int .i64 j ∧ j < N ∧ i ≤ j + 1 ∧ dk.size = N ∧ Pt hd tl blk off dk w wr ∧ reverseLoop i j dk = reverseRange d a (b' + 1)) (fun vi vj _ => (intOf vj).toNat + 1 - (intOf vi).toNat)
  case atStart => exact ⟨a, b', d, rfl, by go_num, by omega, by omega, HN.out, P0.out, rfl⟩
  case round =>
    obtain ⟨i, j, dk, rfl, rfl, hjN, hij, hsk, hpk, hO⟩ := hrel
    have HO := Lib.hid hO; clear hO
    by_cases hlt : i < j
    · have hltZ : (i : Int) < (j : Int) := by omega
      obtain ⟨j', rfl⟩ : ∃ j', j = j' + 1 := ⟨j - 1, by omega⟩
      obtain ⟨G, hG⟩ : ∃ G : Nat → Int, ∀ t, G t = dk[t]! := ⟨fun t => dk[t]!, fun _ => rfl⟩
      have hcw : ∀ t, t < N → wr.cell? ⟨blk, off + t, none⟩ = some (.int .u64 (G t)) := fun t ht => by rw [hG]; exact hpk.row.cell (by omega)
      have hfw : ∀ t, t < N → wr.frozen? ⟨blk, off + t, none⟩ = false := fun t _ => hpk.row.frozen t
      have HG := Lib.hid hG; clear hG
      have HSk := Lib.hid hsk; clear hsk
      have HPk := Lib.hid hpk; clear hpk
      go_wp2
      go_region
      all_goals go_wp2
      all_goals go_roundw
      case rel =>
        refine ⟨i + 1, j', swp dk i (j' + 1), by go_num, by go_num, by omega, by omega, by rw [size_swp]; exact HSk.out, ?_, by have := HO.out; rw [rev_on (by omega)] at this; exact this⟩
        rw [HG.out, HG.out]
        exact (HPk.out.drew).swap (by rw [HSk.out]; omega) (by rw [HSk.out]; omega)
      case measure => first | (simp [intOf]; done) | (simp [intOf]; omega)
    · go_wp2
      go_end0
      exact ⟨rfl, by have := HO.out; rw [rev_off hlt] at this; rw [← this]; exact hpk⟩
end Go.Proofs.Ythldjdkjgiebaaa.S64
