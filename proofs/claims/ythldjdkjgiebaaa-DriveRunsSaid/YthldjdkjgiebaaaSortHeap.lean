/-
  The walks of siftDownOrdered and heapSortOrdered at words. By an AI agent.
-/
import Derived.Test.YthldjdkjgiebaaaSortIns
import Derived.BigRegion
set_option linter.unusedSimpArgs false
namespace Go.Proofs.Ythldjdkjgiebaaa.S64
open Go.RowKit Go.Sort
theorem sift_end {hi f r : Nat} {d : Array Int} (h : hi ≤ 2 * r + 1) : siftDown ltInt hi f r d = d := by rw [siftDown, dif_pos (by omega)]
theorem sift_right {hi f r : Nat} {d : Array Int} (h : 2 * r + 2 < hi) (h1 : ltInt d[f + (2 * r + 1)]! d[f + (2 * r + 1) + 1]! = true) (h2 : ltInt d[f + r]! d[f + (2 * r + 2)]! = true) :
    siftDown ltInt hi f r d = siftDown ltInt hi f (2 * r + 2) (swp d (f + r) (f + (2 * r + 2))) := by
  rw [siftDown, dif_neg (by omega)]
  simp only [h1, h2]
  simp [show 2 * r + 1 + 1 < hi by omega, h]
theorem sift_right_end {hi f r : Nat} {d : Array Int} (h : 2 * r + 2 < hi) (h1 : ltInt d[f + (2 * r + 1)]! d[f + (2 * r + 1) + 1]! = true) (h2 : ltInt d[f + r]! d[f + (2 * r + 2)]! = false) :
    siftDown ltInt hi f r d = d := by
  rw [siftDown, dif_neg (by omega)]
  simp only [h1, h2]
  simp [show 2 * r + 1 + 1 < hi by omega]
theorem sift_left {hi f r : Nat} {d : Array Int} (h : 2 * r + 1 < hi) (h1 : hi ≤ 2 * r + 2 ∨ ltInt d[f + (2 * r + 1)]! d[f + (2 * r + 1) + 1]! = false) (h2 : ltInt d[f + r]! d[f + (2 * r + 1)]! = true) :
    siftDown ltInt hi f r d = siftDown ltInt hi f (2 * r + 1) (swp d (f + r) (f + (2 * r + 1))) := by
  rw [siftDown, dif_neg (by omega)]
  rcases h1 with h1 | h1
  · simp [show ¬ 2 * r + 1 + 1 < hi by omega, h2]
  · simp [h1, h2]
theorem sift_left_end {hi f r : Nat} {d : Array Int} (h : 2 * r + 1 < hi) (h1 : hi ≤ 2 * r + 2 ∨ ltInt d[f + (2 * r + 1)]! d[f + (2 * r + 1) + 1]! = false) (h2 : ltInt d[f + r]! d[f + (2 * r + 1)]! = false) :
    siftDown ltInt hi f r d = d := by
  rw [siftDown, dif_neg (by omega)]
  rcases h1 with h1 | h1
  · simp [show ¬ 2 * r + 1 + 1 < hi by omega, h2]
  · simp [h1, h2]
variable {hd tl : List Value} {blk off : Nat}
set_option maxRecDepth 100000 in
set_option maxHeartbeats 4000000 in
theorem sift_any (cap lo hi f N : Nat) (d : Array Int) (w : World) (hR : Rw hd tl blk off w d) (hN : d.size = N) (hlo : lo ≤ N) (hb : f + hi ≤ N) (hsz : N ≤ 1000000) :
    Calls Try.prog 70 #[.slice (some ⟨blk, off, none⟩) N cap, .int .i64 (lo : Int), .int .i64 (hi : Int), .int .i64 (f : Int)] w (Puts hd tl blk off (siftDown ltInt hi f lo d) w) := by
  have P0 := Lib.hid hR.refl; clear hR
  have HN := Lib.hid hN; clear hN
  go_enter Try.func70, Try.ntmps70
  go_wp2
  go_loopw [8] (fun vr wr => ∃ (r : Nat) (dk : Array Int), vr = .int .i64 r ∧ r ≤ N ∧ dk.size = N ∧ Pt hd tl blk off dk w wr ∧ siftDown ltInt hi f r dk = siftDown ltInt hi f lo d) (fun vr _ => N + 1 - (intOf vr).toNat)
  case atStart => exact ⟨lo, d, rfl, hlo, HN.out, P0.out, rfl⟩
  case round =>
    obtain ⟨r, dk, rfl, hrN, hsk, hpk, hO⟩ := hrel
    have HO := Lib.hid hO; clear hO
    by_cases hend : hi ≤ 2 * r + 1
    · have hendZ : (hi : Int) ≤ 2 * (r : Int) + 1 := by omega
      go_wp2
      go_end0
      exact ⟨rfl, by have := HO.out; rw [sift_end hend] at this; rw [← this]; exact hpk⟩
    · have hstep : 2 * r + 1 < hi := by omega
      obtain ⟨G, hG⟩ : ∃ G : Nat → Int, ∀ t, G t = dk[t]! := ⟨fun t => dk[t]!, fun _ => rfl⟩
      have hcw : ∀ t, t < N → wr.cell? ⟨blk, off + t, none⟩ = some (.int .u64 (G t)) := fun t ht => by rw [hG]; exact hpk.row.cell (by omega)
      have hfw : ∀ t, t < N → wr.frozen? ⟨blk, off + t, none⟩ = false := fun t _ => hpk.row.frozen t
      have HG := Lib.hid hG; clear hG
      have HSk := Lib.hid hsk; clear hsk
      have HPk := Lib.hid hpk; clear hpk
      have HQ := Lib.hid less_q
      obtain ⟨c, hc⟩ : ∃ c, c = 2 * r + 1 := ⟨_, rfl⟩
      obtain ⟨s, hs⟩ : ∃ s, s = f + c := ⟨_, rfl⟩
      obtain ⟨p, hp⟩ : ∃ p, p = f + r := ⟨_, rfl⟩
      have hsN : s < N := by omega
      have hpN : p < N := by omega
      have hchi : c < hi := by omega
      have hchiZ : (c : Int) < (hi : Int) := by omega
      have q0 : (2 : Int) * (r : Int) + 1 = (c : Int) := by omega
      have q1 : (f : Int) + (c : Int) = (s : Int) := by omega
      have q1w : IntKind.i64.wrap ((f : Int) + (c : Int)) = (s : Int) := by rw [q1]; exact IntWalk.i64_in _ (by omega)
      have q2 : (f : Int) + (r : Int) = (p : Int) := by omega
      have q2w : IntKind.i64.wrap ((f : Int) + (r : Int)) = (p : Int) := by rw [q2]; exact IntWalk.i64_in _ (by omega)
      have q3w : IntKind.i64.wrap ((c : Int) + 1) = (c : Int) + 1 := IntWalk.i64_in _ (by omega)
      have q4w : IntKind.i64.wrap ((s : Int) + 1) = (s : Int) + 1 := IntWalk.i64_in _ (by omega)
      have q5 : (f : Int) + ((c : Int) + 1) = (s : Int) + 1 := by omega
      have q5w : IntKind.i64.wrap ((f : Int) + ((c : Int) + 1)) = (s : Int) + 1 := by rw [q5]; exact IntWalk.i64_in _ (by omega)
      have Hc := Lib.hid hc; clear hc
      have Hs := Lib.hid hs; clear hs
      have Hp := Lib.hid hp; clear hp
      by_cases hcc : c + 1 < hi
      · have hccZ : (c : Int) + 1 < (hi : Int) := by omega
        have hs1 : s + 1 < N := by have := Hs.out; omega
        have E2 : Hid (ltInt dk[f + (2 * r + 1)]! dk[f + (2 * r + 1) + 1]! = ltInt (G s) (G (s + 1))) := Lib.hid (by rw [HG.out, HG.out, Hs.out, Hc.out])
        have E3 : Hid (ltInt dk[f + r]! dk[f + (2 * r + 2)]! = ltInt (G p) (G (s + 1))) := Lib.hid (by rw [HG.out, HG.out, Hp.out, Hs.out, Hc.out]; rfl)
        have E4 : Hid (ltInt dk[f + r]! dk[f + (2 * r + 1)]! = ltInt (G p) (G s)) := Lib.hid (by rw [HG.out, HG.out, Hp.out, Hs.out, Hc.out])
        cases hl1 : ltInt (G s) (G (s + 1))
        · cases hl2 : ltInt (G p) (G s)
          · go_wp2
            go_quiet ((go_at_call 65; with_reducible exact HQ.out _ _ _ _))
            go_wp2
            have HP2 := Lib.hid (HPk.out.drewN nq)
            have hcw2 : ∀ t, t < N → (wr.drewN nq).cell? ⟨blk, off + t, none⟩ = some (.int .u64 (G t)) := hcw
            have hfw2 : ∀ t, t < N → (wr.drewN nq).frozen? ⟨blk, off + t, none⟩ = false := hfw
            clear hcw hfw
            generalize wr.drewN nq = w2 at HP2 hcw2 hfw2 ⊢
            go_quiet ((go_at_call 65; with_reducible exact HQ.out _ _ _ _))
            go_wp2
            go_end0
            exact ⟨rfl, by have := HO.out; rw [sift_left_end hstep (.inr (by rw [E2.out]; exact hl1)) (by rw [E4.out]; exact hl2)] at this; rw [← this]; exact HP2.out.drewN _⟩
          · go_wp2
            go_quiet ((go_at_call 65; with_reducible exact HQ.out _ _ _ _))
            go_wp2
            have HP2 := Lib.hid (HPk.out.drewN nq)
            have hcw2 : ∀ t, t < N → (wr.drewN nq).cell? ⟨blk, off + t, none⟩ = some (.int .u64 (G t)) := hcw
            have hfw2 : ∀ t, t < N → (wr.drewN nq).frozen? ⟨blk, off + t, none⟩ = false := hfw
            clear hcw hfw
            generalize wr.drewN nq = w2 at HP2 hcw2 hfw2 ⊢
            go_quiet ((go_at_call 65; with_reducible exact HQ.out _ _ _ _))
            go_wp2
            go_region
            all_goals go_wp2
            all_goals go_roundw
            case rel =>
              clear q0 q1 q1w q2 q2w q3w q4w q5 q5w
              have hc := Hc.out
              have hs := Hs.out
              have hp := Hp.out
              refine ⟨c, swp dk p s, by go_num, by omega, by rw [size_swp]; exact HSk.out, ?_, ?_⟩
              · rw [HG.out, HG.out]
                exact ((HP2.out.drewN _).drew).swap (by rw [HSk.out]; omega) (by rw [HSk.out]; omega)
              · have h9 := HO.out
                rw [sift_left hstep (.inr (by rw [E2.out]; exact hl1)) (by rw [E4.out]; exact hl2), ← hc, ← hs, ← hp] at h9
                exact h9
            case measure =>
              clear q0 q1 q1w q2 q2w q3w q4w q5 q5w
              have hc := Hc.out
              first | (simp [intOf]; done) | (simp [intOf]; omega)
        · cases hl2 : ltInt (G p) (G (s + 1))
          · go_wp2
            go_quiet ((go_at_call 65; with_reducible exact HQ.out _ _ _ _))
            go_wp2
            have HP2 := Lib.hid (HPk.out.drewN nq)
            have hcw2 : ∀ t, t < N → (wr.drewN nq).cell? ⟨blk, off + t, none⟩ = some (.int .u64 (G t)) := hcw
            have hfw2 : ∀ t, t < N → (wr.drewN nq).frozen? ⟨blk, off + t, none⟩ = false := hfw
            clear hcw hfw
            generalize wr.drewN nq = w2 at HP2 hcw2 hfw2 ⊢
            go_quiet ((go_at_call 65; with_reducible exact HQ.out _ _ _ _))
            go_wp2
            go_end0
            exact ⟨rfl, by have := HO.out; rw [sift_right_end (by have := Hc.out; omega) (by rw [E2.out]; exact hl1) (by rw [E3.out]; exact hl2)] at this; rw [← this]; exact HP2.out.drewN _⟩
          · go_wp2
            go_quiet ((go_at_call 65; with_reducible exact HQ.out _ _ _ _))
            go_wp2
            have HP2 := Lib.hid (HPk.out.drewN nq)
            have hcw2 : ∀ t, t < N → (wr.drewN nq).cell? ⟨blk, off + t, none⟩ = some (.int .u64 (G t)) := hcw
            have hfw2 : ∀ t, t < N → (wr.drewN nq).frozen? ⟨blk, off + t, none⟩ = false := hfw
            clear hcw hfw
            generalize wr.drewN nq = w2 at HP2 hcw2 hfw2 ⊢
            go_quiet ((go_at_call 65; with_reducible exact HQ.out _ _ _ _))
            go_wp2
            go_region
            all_goals go_wp2
            all_goals go_roundw
            case rel =>
              clear q0 q1 q1w q2 q2w q3w q4w q5 q5w
              have hc := Hc.out
              have hs := Hs.out
              have hp := Hp.out
              refine ⟨c + 1, swp dk p (s + 1), by go_num, by omega, by rw [size_swp]; exact HSk.out, ?_, ?_⟩
              · rw [HG.out, HG.out]
                exact ((HP2.out.drewN _).drew).swap (by rw [HSk.out]; omega) (by rw [HSk.out]; omega)
              · have h9 := HO.out
                rw [sift_right (by omega) (by rw [E2.out]; exact hl1) (by rw [E3.out]; exact hl2), ← hp, show f + (2 * r + 2) = s + 1 by omega, show 2 * r + 2 = c + 1 by omega] at h9
                exact h9
            case measure =>
              clear q0 q1 q1w q2 q2w q3w q4w q5 q5w
              have hc := Hc.out
              first | (simp [intOf]; done) | (simp [intOf]; omega)
      · have hccZ : decide ((c : Int) + 1 < (hi : Int)) = false := by simp; omega
        have E4 : Hid (ltInt dk[f + r]! dk[f + (2 * r + 1)]! = ltInt (G p) (G s)) := Lib.hid (by rw [HG.out, HG.out, Hp.out, Hs.out, Hc.out])
        cases hl2 : ltInt (G p) (G s)
        · go_wp2
          go_quiet ((go_at_call 65; with_reducible exact HQ.out _ _ _ _))
          go_wp2
          have HP2 := Lib.hid (HPk.out.drewN nq)
          have hcw2 : ∀ t, t < N → (wr.drewN nq).cell? ⟨blk, off + t, none⟩ = some (.int .u64 (G t)) := hcw
          have hfw2 : ∀ t, t < N → (wr.drewN nq).frozen? ⟨blk, off + t, none⟩ = false := hfw
          clear hcw hfw
          generalize wr.drewN nq = w2 at HP2 hcw2 hfw2 ⊢
          go_quiet ((go_at_call 65; with_reducible exact HQ.out _ _ _ _))
          go_wp2
          go_end0
          exact ⟨rfl, by have := HO.out; rw [sift_left_end hstep (.inl (by have := Hc.out; omega)) (by rw [E4.out]; exact hl2)] at this; rw [← this]; exact HP2.out.drewN _⟩
        · go_wp2
          go_quiet ((go_at_call 65; with_reducible exact HQ.out _ _ _ _))
          go_wp2
          have HP2 := Lib.hid (HPk.out.drewN nq)
          have hcw2 : ∀ t, t < N → (wr.drewN nq).cell? ⟨blk, off + t, none⟩ = some (.int .u64 (G t)) := hcw
          have hfw2 : ∀ t, t < N → (wr.drewN nq).frozen? ⟨blk, off + t, none⟩ = false := hfw
          clear hcw hfw
          generalize wr.drewN nq = w2 at HP2 hcw2 hfw2 ⊢
          go_quiet ((go_at_call 65; with_reducible exact HQ.out _ _ _ _))
          go_wp2
          go_region
          all_goals go_wp2
          all_goals go_roundw
          case rel =>
            clear q0 q1 q1w q2 q2w q3w q4w q5 q5w
            have hc := Hc.out
            have hs := Hs.out
            have hp := Hp.out
            refine ⟨c, swp dk p s, by go_num, by omega, by rw [size_swp]; exact HSk.out, ?_, ?_⟩
            · rw [HG.out, HG.out]
              exact ((HP2.out.drewN _).drew).swap (by rw [HSk.out]; omega) (by rw [HSk.out]; omega)
            · have h9 := HO.out
              rw [sift_left hstep (.inl (by omega)) (by rw [E4.out]; exact hl2), ← hc, ← hs, ← hp] at h9
              exact h9
          case measure =>
            clear q0 q1 q1w q2 q2w q3w q4w q5 q5w
            have hc := Hc.out
            first | (simp [intOf]; done) | (simp [intOf]; omega)
end Go.Proofs.Ythldjdkjgiebaaa.S64
