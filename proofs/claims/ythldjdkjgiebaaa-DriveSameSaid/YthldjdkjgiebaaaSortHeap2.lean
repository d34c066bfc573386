/-
  The walk of heapSortOrdered at words. By an AI agent.
-/
import Derived.Test.YthldjdkjgiebaaaSortHeap
import Derived.Sort.Row
set_option linter.unusedSimpArgs false
namespace Go.Proofs.Ythldjdkjgiebaaa.S64
open Go.RowKit Go.Sort
theorem sift_size (hi f : Nat) : ∀ (n r : Nat) (d : Array Int), hi - r ≤ n → (siftDown ltInt hi f r d).size = d.size
  | 0, r, d, h => by rw [sift_end (by omega)]
  | n + 1, r, d, h => by
    rw [siftDown]
    split
    · rfl
    · split
      · split
        · rfl
        · split
          · rw [sift_size hi f n _ _ (by omega), size_swp]
          · rfl
      · split
        · rfl
        · rw [sift_size hi f n _ _ (by omega), size_swp]
variable {hd tl : List Value} {blk off : Nat}
theorem Pt.cell_swap {d : Array Int} {w w' : World} (h : Pt hd tl blk off d w w') {i j : Nat} (hi : i < d.size) (hj : j < d.size) :
    (w'.setCell ⟨blk, off + i, none⟩ (.int .u64 d[j]!)).cell? ⟨blk, off + j, none⟩ = some (.int .u64 d[j]!) := by
  rw [(h.set hi _).row.cell (by simpa using hj)]
  by_cases e : i = j
  · subst e; rw [getElem!_set_same _ _ _ hi]
  · rw [getElem!_set_other _ _ _ _ (fun h => e h.symm)]
set_option maxRecDepth 100000 in
set_option maxHeartbeats 4000000 in
theorem heap_any (cap f h N : Nat) (d : Array Int) (w : World) (hR : Rw hd tl blk off w d) (hN : d.size = N) (hb : f + (h + 1) ≤ N) (hsz : N ≤ 1000000) :
    Calls Try.prog 60 #[.slice (some ⟨blk, off, none⟩) N cap, .int .i64 (f : Int), .int .i64 ((f : Int) + ((h : Int) + 1))] w (Puts hd tl blk off (heapSort ltInt d f (f + (h + 1))) w) := by
  have P0 := Lib.hid hR.refl; clear hR
  have HN := Lib.hid hN; clear hN
  have HE : Hid (heapSort ltInt d f (f + (h + 1)) = heapPop ltInt f (h + 1) (heapBuild ltInt (h + 1) f (h / 2 + 1) d)) := Lib.hid (by
    unfold heapSort; rw [show f + (h + 1) - f = h + 1 by omega]; rfl)
  have HS : Hid (∀ (lo hi : Nat) (d : Array Int) (w : World), Rw hd tl blk off w d → d.size = N → lo ≤ N → f + hi ≤ N → Calls Try.prog 70 #[.slice (some ⟨blk, off, none⟩) N cap, .int .i64 (lo : Int), .int .i64 (hi : Int), .int .i64 (f : Int)] w (Puts hd tl blk off (siftDown ltInt hi f lo d) w)) :=
    Lib.hid fun lo hi d w h1 h2 h3 h4 => sift_any cap lo hi f N d w h1 h2 h3 h4 hsz
  have HS0 : Hid (∀ (hi : Nat) (d : Array Int) (w : World), Rw hd tl blk off w d → d.size = N → f + hi ≤ N → Calls Try.prog 70 #[.slice (some ⟨blk, off, none⟩) N cap, .int .i64 0, .int .i64 (hi : Int), .int .i64 (f : Int)] w (Puts hd tl blk off (siftDown ltInt hi f 0 d) w)) :=
    Lib.hid fun hi d w h1 h2 h4 => sift_any cap 0 hi f N d w h1 h2 (Nat.zero_le _) h4 hsz
  obtain ⟨hi, hhi⟩ : ∃ hi, hi = h + 1 := ⟨_, rfl⟩
  have ehi : (f : Int) + ((h : Int) + 1) - (f : Int) = (hi : Int) := by omega
  have Hhi := Lib.hid hhi
  rw [← hhi] at HE hb
  rw [← hhi]
  have hm : (hi : Int) - 1 = (h : Int) := by omega
  have h1000 : h ≤ 1000000 := by omega
  clear hhi
  go_enter Try.func60, Try.ntmps60
  go_wp2
  go_loopw [9] (fun vi wr => ∃ (k : Nat) (dk : Array Int), vi = .int .i64 ((k : Int) - 1) ∧ k ≤ hi ∧ dk.size = N ∧ Pt hd tl blk off dk w wr ∧ heapBuild ltInt hi f k dk = heapBuild ltInt hi f (h / 2 + 1) d) (fun vi _ => (intOf vi + 1).toNat)
  case atStart => exact ⟨h / 2 + 1, d, by go_num, by have := Hhi.out; omega, HN.out, P0.out, rfl⟩
  case round =>
    obtain ⟨k, dk, rfl, hk, hsk, hpk, hO⟩ := hrel
    have HO := Lib.hid hO; clear hO
    have HSk := Lib.hid hsk; clear hsk
    have HPk := Lib.hid hpk; clear hpk
    cases k with
    | succ k =>
      have e1 : (((k + 1 : Nat) : Int)) - 1 = (k : Int) := by omega
      rw [e1]
      go_wp2_with fail
      with_reducible refine (HS.out k hi dk wr HPk.out.row HSk.out (by omega) (by omega)).mono ?_
      rintro e w2 ⟨rfl, hp2⟩
      have HP2 := Lib.hid (HPk.out.trans hp2); clear hp2
      go_wp2_with fail
      go_roundw
      case rel => exact ⟨k, siftDown ltInt hi f k dk, rfl, by omega, (sift_size hi f _ k dk (Nat.le_refl _)).trans HSk.out, HP2.out, by have := HO.out; rw [heapBuild] at this; exact this⟩
      case measure => first | (simp [intOf]; done) | (simp [intOf]; omega)
    | zero =>
      have e0 : ((0 : Nat) : Int) - 1 = -1 := rfl
      rw [e0]
      clear e0
      go_wp2
      have HD : Hid (dk = heapBuild ltInt hi f (h / 2 + 1) d) := Lib.hid (by have := HO.out; rw [heapBuild] at this; exact this)
      clear HO
      go_loopw [10] (fun vi wr => ∃ (k : Nat) (dk : Array Int), vi = .int .i64 ((k : Int) - 1) ∧ k ≤ hi ∧ dk.size = N ∧ Pt hd tl blk off dk w wr ∧ heapPop ltInt f k dk = heapSort ltInt d f (f + hi)) (fun vi _ => (intOf vi + 1).toNat)
      case atStart => exact ⟨hi, dk, by rw [hm], Nat.le_refl _, HSk.out, HPk.out, by rw [HD.out, HE.out]⟩
      case round =>
        clear HSk HPk HD
        obtain ⟨k, dk, rfl, hk, hsk, hpk, hO⟩ := hrel
        have HO := Lib.hid hO; clear hO
        cases k with
        | succ k =>
          have e1 : (((k + 1 : Nat) : Int)) - 1 = (k : Int) := by omega
          rw [e1]
          obtain ⟨G, hG⟩ : ∃ G : Nat → Int, ∀ t, G t = dk[t]! := ⟨fun t => dk[t]!, fun _ => rfl⟩
          have hcw : ∀ t, t < N → wr.cell? ⟨blk, off + t, none⟩ = some (.int .u64 (G t)) := fun t ht => by rw [hG]; exact hpk.row.cell (by omega)
          have hfw : ∀ t, t < N → wr.frozen? ⟨blk, off + t, none⟩ = false := fun t _ => hpk.row.frozen t
          have hcs := hpk.cell_swap (i := f) (j := f + k) (by omega) (by omega)
          rw [← hG] at hcs
          have HG := Lib.hid hG; clear hG
          have HSk := Lib.hid hsk; clear hsk
          have HPk := Lib.hid hpk; clear hpk
          have hkN : k < N := by omega
          obtain ⟨s, hs⟩ : ∃ s, s = f + k := ⟨_, rfl⟩
          have hsN : s < N := by omega
          have hfN : f < N := by omega
          have q1 : (f : Int) + (k : Int) = (s : Int) := by omega
          rw [← hs] at hcs
          have Hs := Lib.hid hs; clear hs
          clear e1
          go_wp2
          go_region
          all_goals go_wp2_with fail
          have hp1 := (HPk.out.swap (i := f) (j := s) (by rw [HSk.out]; exact hfN) (by rw [HSk.out]; exact hsN)).drew
          rw [← HG.out, ← HG.out] at hp1
          have hs1 : (swp dk f s).size = N := by rw [size_swp]; exact HSk.out
          generalize ((wr.setCell ⟨blk, off + f, none⟩ (.int .u64 (G s))).setCell ⟨blk, off + s, none⟩ (.int .u64 (G f))).drew = w1 at hp1 ⊢
          with_reducible refine (HS0.out k _ w1 hp1.row hs1 (by omega)).mono ?_
          rintro e w2 ⟨rfl, hp2⟩
          have HP2 := Lib.hid (hp1.trans hp2); clear hp2 hp1
          go_wp2_with fail
          go_roundw
          case rel => exact ⟨k, _, rfl, by omega, (sift_size k f _ 0 _ (Nat.le_refl _)).trans hs1, HP2.out, by have := HO.out; rw [heapPop, ← Hs.out] at this; exact this⟩
          case measure => first | (simp [intOf]; done) | (simp [intOf]; omega)
        | zero =>
          go_wp2
          go_end0
          exact ⟨rfl, by have := HO.out; rw [heapPop] at this; rw [← this]; exact hpk⟩
end Go.Proofs.Ythldjdkjgiebaaa.S64
