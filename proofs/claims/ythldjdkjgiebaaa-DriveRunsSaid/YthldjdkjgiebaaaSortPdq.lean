/-
  The walk of pdqsortOrdered at words: the range comes out a permutation of what it was, in rising order. By an AI agent.
-/
import Derived.Test.YthldjdkjgiebaaaSortBreak
set_option linter.unusedSimpArgs false
namespace Go.Proofs.Ythldjdkjgiebaaa.S64
open Go.RowKit Go.Sort
variable {hd tl : List Value} {blk off : Nat}
/-- What the loop keeps: the part that is left, once it is sorted, makes the whole sorted. -/
structure Inv (N a b a' b' : Nat) (d dk : Array Int) : Prop where
  size : dk.size = N
  below : Go.Sort.Below ltInt a' b' dk
  glue : ∀ R, PermIn a' b' dk R → SortedIn ltInt a' b' R → PermIn a b d R ∧ SortedIn ltInt a b R
theorem Inv.perm {N a b a' b' : Nat} {d dk d1 : Array Int} (h : Inv N a b a' b' d dk) (hb : b' ≤ N) (hp : PermIn a' b' dk d1) : Inv N a b a' b' d d1 :=
  ⟨hp.1.trans h.size, h.below.perm (by rw [h.size]; exact hb) hp, fun R h1 h2 => h.glue R (permIn_trans _ _ _ _ _ hp h1) h2⟩
/-- The range comes out sorted. -/
def Sorts (hd tl : List Value) (blk off a b : Nat) (d : Array Int) (w : World) (e : Ending) (w' : World) : Prop := e = .returned (.tuple #[]) ∧ ∃ d', PermIn a b d d' ∧ SortedIn ltInt a b d' ∧ Pt hd tl blk off d' w w'
theorem part_b (cap a b pv N : Nat) (d : Array Int) (w : World) (hR : Rw hd tl blk off w d) (hN : d.size = N) (hpa : a ≤ pv) (hpb : pv < b) (hb : b ≤ N) (hsz : N ≤ 1000000) :
    Calls Try.prog 67 #[.slice (some ⟨blk, off, none⟩) N cap, .int .i64 (a : Int), .int .i64 (b : Int), .int .i64 (pv : Int)] w (Parts hd tl blk off (partition ltInt d a b pv) w) := by
  obtain ⟨b, rfl⟩ : ∃ b0, b = b0 + 1 := ⟨b - 1, by omega⟩
  exact part_any cap a b pv N d w hR hN hpa (by omega) (by omega) hsz
theorem parteq_b (cap a b pv N : Nat) (d : Array Int) (w : World) (hR : Rw hd tl blk off w d) (hN : d.size = N) (hpa : a ≤ pv) (hpb : pv < b) (hb : b ≤ N) (hsz : N ≤ 1000000) :
    Calls Try.prog 66 #[.slice (some ⟨blk, off, none⟩) N cap, .int .i64 (a : Int), .int .i64 (b : Int), .int .i64 (pv : Int)] w (Part1 hd tl blk off (partitionEqual ltInt d a b pv) w) := by
  obtain ⟨b, rfl⟩ : ∃ b0, b = b0 + 1 := ⟨b - 1, by omega⟩
  exact parteq_any cap a b pv N d w hR hN hpa (by omega) (by omega) hsz
theorem heap_b (cap a b N : Nat) (d : Array Int) (w : World) (hR : Rw hd tl blk off w d) (hN : d.size = N) (hab : a < b) (hb : b ≤ N) (hsz : N ≤ 1000000) :
    Calls Try.prog 60 #[.slice (some ⟨blk, off, none⟩) N cap, .int .i64 (a : Int), .int .i64 (b : Int)] w (Puts hd tl blk off (heapSort ltInt d a b) w) := by
  obtain ⟨h, rfl⟩ : ∃ h, b = a + (h + 1) := ⟨b - a - 1, by omega⟩
  exact heap_any cap a h N d w hR hN (by omega) hsz
set_option maxRecDepth 100000 in
set_option maxHeartbeats 8000000 in
theorem pdq_any (cap N : Nat) (hsz : N ≤ 1000000) : ∀ (n a b lim : Nat) (d : Array Int) (w : World), b - a ≤ n → a ≤ b → b ≤ N → lim ≤ 1000 → Rw hd tl blk off w d → d.size = N → Go.Sort.Below ltInt a b d →
    Calls Try.prog 54 #[.slice (some ⟨blk, off, none⟩) N cap, .int .i64 (a : Int), .int .i64 (b : Int), .int .i64 (lim : Int)] w (Sorts hd tl blk off a b d w) := by
  intro n
  induction n using Nat.strongRecOn with
  | _ n ih =>
  intro a b lim d w hn hab hbN hlim hR hN hBl
  have HIH := Lib.hid ih; clear ih
  have HP0 := Lib.hid hR.refl; clear hR
  have HI0 : Hid (Inv N a b a b d d) := Lib.hid ⟨hN, hBl, fun R h1 h2 => ⟨h1, h2⟩⟩
  clear hN hBl
  have HLe := Lib.hid less_q
  go_enter Try.func54, Try.ntmps54
  go_wp2_with fail
  go_loopg [1, 2, 3, 8, 9] (b - a) (fun k va vb vl v8 v9 wr => ∃ (a' b' lim' : Nat) (wb wp : Bool) (dk : Array Int), va = .int .i64 (a' : Int) ∧ vb = .int .i64 (b' : Int) ∧ vl = .int .i64 (lim' : Int) ∧ v8 = .bool wb ∧ v9 = .bool wp ∧ k = b' - a' ∧ (a ≤ a' ∧ a' ≤ b' ∧ b' ≤ b ∧ lim' ≤ 1000) ∧ Inv N a b a' b' d dk ∧ Pt hd tl blk off dk w wr)
  case atStart => exact ⟨a, b, lim, true, true, d, rfl, rfl, rfl, rfl, rfl, rfl, ⟨Nat.le_refl _, hab, Nat.le_refl _, hlim⟩, HI0.out, HP0.out⟩
  case round =>
    clear HI0 HP0
    obtain ⟨a', b', lim', wb, wp, dk, rfl, rfl, rfl, rfl, rfl, rfl, ⟨h1, h2, h3, h4⟩, hinv, hpk⟩ := hrel
    have HInv := Lib.hid hinv; clear hinv
    have HPk := Lib.hid hpk; clear hpk
    by_cases h12 : b' - a' ≤ 12
    · have h12Z : (b' : Int) - (a' : Int) ≤ 12 := by omega
      go_wp2_with fail
      with_reducible refine (ins_any cap a' b' N dk wr HPk.out.row HInv.out.size h2 (by omega) hsz).mono ?_
      rintro e w2 ⟨rfl, hp2⟩
      have HP2 := Lib.hid (HPk.out.trans hp2); clear hp2
      go_wp2_with fail
      go_end0
      obtain ⟨i1, i2⟩ := insertionSort_holds swo_ltInt dk a' b' h2 (by rw [HInv.out.size]; omega)
      obtain ⟨g1, g2⟩ := HInv.out.glue _ i1 i2
      exact ⟨rfl, _, g1, g2, HP2.out⟩
    · obtain ⟨l, hl⟩ : ∃ l, l = b' - a' := ⟨_, rfl⟩
      have el : (b' : Int) - (a' : Int) = (l : Int) := by omega
      have hlB : decide ((l : Int) ≤ 12) = false := by simp; omega
      have hab12 : a' + 12 < b' := by omega
      have Hl := Lib.hid hl; clear hl
      by_cases hl0 : lim' = 0
      · have hl0B : ((lim' : Int) == 0) = true := by simp; omega
        go_wp2_with fail
        with_reducible refine (heap_b cap a' b' N dk wr HPk.out.row HInv.out.size (by omega) (by omega) hsz).mono ?_
        rintro e w2 ⟨rfl, hp2⟩
        have HP2 := Lib.hid (HPk.out.trans hp2); clear hp2
        go_wp2_with fail
        go_end0
        obtain ⟨i1, i2⟩ := heapSort_holds swo_ltInt dk a' b' h2 (by rw [HInv.out.size]; omega)
        obtain ⟨g1, g2⟩ := HInv.out.glue _ i1 i2
        exact ⟨rfl, _, g1, g2, HP2.out⟩
      · have hl0B : ((lim' : Int) == 0) = false := by simp; omega
        go_upto_if 35 with (fail)
        go_cut [3] (fun vl wx => ∃ (lm : Nat) (d1 : Array Int), vl = .int .i64 (lm : Int) ∧ lm ≤ 1000 ∧ Inv N a b a' b' d d1 ∧ Pt hd tl blk off d1 w wx)
        case first =>
          cases wb with
          | true =>
            go_wp2_with fail
            go_meet
            case rel => exact ⟨lim', dk, rfl, h4, HInv.out, HPk.out⟩
          | false =>
            go_wp2_with fail
            with_reducible refine (break_any cap a' b' N dk wr HPk.out.row HInv.out.size hab12 (by omega) hsz).mono ?_
            rintro e w2 ⟨rfl, d1, hp1, hp2⟩
            have HI1 := Lib.hid (HInv.out.perm (by omega) hp1)
            have HP2 := Lib.hid (HPk.out.trans hp2); clear hp2 hp1
            go_wp2_with fail
            go_meet
            case rel => exact ⟨lim' - 1, d1, by rw [show ((lim' - 1 : Nat) : Int) = (lim' : Int) - 1 by omega], by omega, HI1.out, HP2.out⟩
        case rest =>
          obtain ⟨lm, d1, rfl, hlm, hi1, hp1⟩ := hcut
          have HI1 := Lib.hid hi1; clear hi1 HInv
          have HP1 := Lib.hid hp1; clear hp1 HPk
          go_wp2_with fail
          with_reducible refine (choose_any cap a' b' N d1 wc HP1.out.row HI1.out.size hab12 (by omega) hsz).mono ?_
          rintro e w2 ⟨p, h, rfl, hpa, hpb, hh, hp2⟩
          have HP2 := Lib.hid (HP1.out.trans hp2); clear hp2 HP1
          go_upto_if 50 with (fail)
          go_cut [11, 12] (fun v11 v12 wx => ∃ (p h : Nat) (d2 : Array Int), v11 = .int .i64 (p : Int) ∧ v12 = .int .i64 (h : Int) ∧ (a' ≤ p ∧ p < b') ∧ Inv N a b a' b' d d2 ∧ Pt hd tl blk off d2 w wx)
          case first =>
            by_cases hh2 : h = 2
            · have hhB : ((h : Int) == 2) = true := by simp; omega
              go_wp2_with fail
              with_reducible refine (rev_any cap a' b' N d1 w2 HP2.out.row HI1.out.size (by omega) (by omega) hsz).mono ?_
              rintro e w3 ⟨rfl, hp3⟩
              have HP3 := Lib.hid (HP2.out.trans hp3); clear hp3
              have HI3 := Lib.hid (HI1.out.perm (by omega) (reverseRange_holds d1 a' b' h2 (by rw [HI1.out.size]; omega)))
              go_wp2_with fail
              go_meet
              case rel => exact ⟨b' - 1 - (p - a'), 1, _, by rw [show ((b' - 1 - (p - a') : Nat) : Int) = (b' : Int) - 1 - ((p : Int) - (a' : Int)) by clear el; omega], rfl, ⟨by clear el; omega, by clear el; omega⟩, HI3.out, HP3.out⟩
            · have hhB : ((h : Int) == 2) = false := by simp; omega
              go_wp2_with fail
              go_meet
              case rel => exact ⟨p, h, d1, rfl, rfl, ⟨hpa, hpb⟩, HI1.out, HP2.out⟩
          case rest =>
            clear hpa hpb hh HI1 HP2
            obtain ⟨p, h, d2, rfl, rfl, ⟨hpa, hpb⟩, hi2, hp2⟩ := hcut
            have HI2 := Lib.hid hi2; clear hi2
            have HP2 := Lib.hid hp2; clear hp2
            go_upto_region 15 with (fail)
            go_cut [68] (fun v wx => ∃ c : Bool, v = .bool c ∧ Pt hd tl blk off d2 w wx)
            case first =>
              cases wb with
              | false =>
                go_wp2_with fail
                go_meet
                case rel => exact ⟨_, rfl, HP2.out⟩
              | true =>
                cases wp with
                | false =>
                  go_wp2_with fail
                  go_meet
                  case rel => exact ⟨_, rfl, HP2.out⟩
                | true =>
                  go_wp2_with fail
                  go_meet
                  case rel => exact ⟨_, rfl, HP2.out⟩
            case rest =>
              clear HP2
              obtain ⟨c, rfl, hp2⟩ := hcut
              have HP2 := Lib.hid hp2; clear hp2
              go_upto_if 68 with (fail)
              go_cut [13] (fun _ wx => ∃ d3 : Array Int, Inv N a b a' b' d d3 ∧ Pt hd tl blk off d3 w wx)
              case first =>
                cases c with
                | false =>
                  go_wp2_with fail
                  go_meet
                  case rel => exact ⟨d2, HI2.out, HP2.out⟩
                | true =>
                  obtain ⟨g1, g2⟩ := partialInsertionSort_holds swo_ltInt d2 a' b' (by omega) (by rw [HI2.out.size]; omega) HI2.out.below
                  have HG1 := Lib.hid g1; clear g1
                  have HG2 := Lib.hid g2; clear g2
                  have KP := Lib.hid (pins_any cap a' b' N d2 _ HP2.out.row HI2.out.size (by omega) (by omega) hsz)
                  obtain ⟨r, hr⟩ : ∃ r, r = partialInsertionSort ltInt d2 a' b' := ⟨_, rfl⟩
                  rw [← hr] at HG1 HG2 KP
                  clear hr
                  obtain ⟨d3, rb⟩ := r
                  cases rb with
                  | true =>
                    go_wp2_with fail
                    with_reducible refine KP.out.mono ?_
                    rintro e w3 ⟨rfl, hp3⟩
                    have HP3 := Lib.hid (HP2.out.trans hp3); clear hp3
                    go_wp2_with fail
                    go_end0
                    obtain ⟨i1, i2⟩ := HI2.out.glue _ HG1.out (HG2.out trivial)
                    exact ⟨rfl, _, i1, i2, HP3.out⟩
                  | false =>
                    go_wp2_with fail
                    with_reducible refine KP.out.mono ?_
                    rintro e w3 ⟨rfl, hp3⟩
                    have HP3 := Lib.hid (HP2.out.trans hp3); clear hp3
                    go_wp2_with fail
                    go_meet
                    case rel => exact ⟨d3, HI2.out.perm (by omega) HG1.out, HP3.out⟩
              case rest =>
                clear HP2 HI2
                obtain ⟨d3, hi3, hp3⟩ := hcut
                have HI3 := Lib.hid hi3; clear hi3
                have HP3 := Lib.hid hp3; clear hp3
                obtain ⟨G, hG⟩ : ∃ G : Nat → Int, ∀ t, G t = d3[t]! := ⟨fun t => d3[t]!, fun _ => rfl⟩
                have HG := Lib.hid hG; clear hG
                go_upto_region 17 with (fail)
                go_cut [87] (fun v wx => ∃ c : Bool, v = .bool c ∧ (c = true → 0 < a' ∧ ltInt d3[a' - 1]! d3[p]! = false) ∧ Pt hd tl blk off d3 w wx)
                case first =>
                  have hcw : ∀ t, t < N → wc.cell? ⟨blk, off + t, none⟩ = some (.int .u64 (G t)) := fun t ht => by rw [HG.out]; exact HP3.out.row.cell (by rw [HI3.out.size]; exact ht)
                  have hpN : p < N := by omega
                  by_cases ha0 : 0 < a'
                  · obtain ⟨a0, ha0'⟩ : ∃ a0, a' = a0 + 1 := ⟨a' - 1, by omega⟩
                    have ea0 : (a' : Int) - 1 = (a0 : Int) := by omega
                    have ea0w : IntKind.i64.wrap ((a' : Int) - 1) = (a0 : Int) := by rw [ea0]; exact IntWalk.i64_in _ (by omega)
                    have ha0Z : (0 : Int) < (a' : Int) := by omega
                    have ha0N : a0 < N := by omega
                    have Ha0 := Lib.hid ha0'; clear ha0'
                    have HLt : Hid (ltInt d3[a' - 1]! d3[p]! = ltInt (G a0) (G p)) := Lib.hid (by rw [HG.out, HG.out, Ha0.out]; rfl)
                    cases hl : ltInt (G a0) (G p)
                    · go_wp2
                      go_quiet ((go_at_call 65; with_reducible exact HLe.out _ _ _ _))
                      go_wp2
                      go_meet
                      case rel => exact ⟨_, rfl, fun _ => ⟨ha0, HLt.out.trans hl⟩, HP3.out.drewN _⟩
                    · go_wp2
                      go_quiet ((go_at_call 65; with_reducible exact HLe.out _ _ _ _))
                      go_wp2
                      go_meet
                      case rel => exact ⟨_, rfl, fun h => by simp [hl] at h, HP3.out.drewN _⟩
                  · have ha0B : decide ((0 : Int) < (a' : Int)) = false := by simp; omega
                    go_wp2
                    go_quiet ((go_at_call 65; with_reducible exact HLe.out _ _ _ _))
                    go_wp2
                    go_meet
                    case rel => exact ⟨_, rfl, fun h => by simp at h, HP3.out.drewN _⟩
                case rest =>
                  clear HP3 HG
                  obtain ⟨c, rfl, hc, hp3⟩ := hcut
                  have HP3 := Lib.hid hp3; clear hp3
                  have HC := Lib.hid hc; clear hc
                  cases c with
                  | true =>
                    obtain ⟨ha0, hnl⟩ := HC.out rfl
                    have hsz3 : b' ≤ d3.size := by rw [HI3.out.size]; omega
                    have KE := Lib.hid (parteq_b cap a' b' p N d3 _ HP3.out.row HI3.out.size hpa hpb (by omega) hsz)
                    obtain ⟨mid, d4, hx⟩ : ∃ mid d4, partitionEqual ltInt d3 a' b' p = (mid, d4) := ⟨_, _, rfl⟩
                    obtain ⟨m1, m2, m3, m4, m5⟩ := round_eq swo_ltInt (partitionEqual_holds ltInt) ha0 hpa hpb hsz3 HI3.out.below hnl hx
                    rw [hx] at KE
                    have HI4 : Hid (Inv N a b mid b' d d4) := Lib.hid ⟨m3.trans HI3.out.size, m4, fun R r1 r2 => by obtain ⟨g1, g2⟩ := m5 R r1 r2; exact HI3.out.glue R g1 g2⟩
                    clear hx hnl m3 m4 m5 hsz3
                    go_wp2_with fail
                    with_reducible refine KE.out.mono ?_
                    rintro e w4 ⟨rfl, hp4⟩
                    have HP4 := Lib.hid (HP3.out.trans hp4); clear hp4
                    go_wp2_with fail
                    go_roundg (b' - mid)
                    case measure => clear el; omega
                    case rel => exact ⟨mid, b', lm, wb, wp, d4, rfl, rfl, rfl, rfl, rfl, rfl, ⟨by clear el; omega, m2, h3, hlm⟩, HI4.out, HP4.out⟩
                  | false =>
                    have hsz3 : b' ≤ d3.size := by rw [HI3.out.size]; omega
                    have KE := Lib.hid (part_b cap a' b' p N d3 _ HP3.out.row HI3.out.size hpa hpb (by omega) hsz)
                    obtain ⟨mid, ap, d4, hx⟩ : ∃ mid ap d4, partition ltInt d3 a' b' p = (mid, ap, d4) := ⟨_, _, _, rfl⟩
                    obtain ⟨m1, m2, m3, m4, m5, m6, m7⟩ := round_part swo_ltInt (partition_holds ltInt) hpa hpb hsz3 HI3.out.below hx
                    rw [hx] at KE
                    have HS4 := Lib.hid (m3.trans HI3.out.size); clear m3
                    have H4 := Lib.hid m4; clear m4
                    have H5 := Lib.hid m5; clear m5
                    have H6 := Lib.hid m6; clear m6
                    have H7 := Lib.hid m7; clear m7
                    clear hx hsz3
                    go_wp2_with fail
                    with_reducible refine KE.out.mono ?_
                    rintro e w4 ⟨rfl, hp4⟩
                    have HP4 := Lib.hid (HP3.out.trans hp4); clear hp4 HP3 KE
                    have hl6 : l ≤ 1000000 := by have := Hl.out; omega
                    by_cases hlr : mid - a' < b' - mid
                    · have hlrZ : (mid : Int) - (a' : Int) < (b' : Int) - (mid : Int) := by clear el; omega
                      have KR := Lib.hid (HIH.out (mid - a') (by clear el; omega) a' mid lm d4 w4 (Nat.le_refl _) m1 (by omega) hlm HP4.out.row HS4.out H4.out)
                      go_wp2_with fail
                      with_reducible refine KR.out.mono ?_
                      rintro e w5 ⟨rfl, d5, q1, q2, hp5⟩
                      have HP5 := Lib.hid (HP4.out.trans hp5); clear hp5
                      obtain ⟨z1, z2⟩ := H6.out d5 q1 q2
                      have HI5 : Hid (Inv N a b (mid + 1) b' d d5) := Lib.hid ⟨q1.1.trans HS4.out, z1, fun R r1 r2 => by obtain ⟨g1, g2⟩ := z2 R r1 r2; exact HI3.out.glue R g1 g2⟩
                      clear q1 q2 z1 z2
                      go_wp2_with fail
                      go_roundg (b' - (mid + 1))
                      case measure => clear el; omega
                      case rel => exact ⟨mid + 1, b', lm, _, ap, d5, by go_num, rfl, rfl, rfl, rfl, rfl, ⟨by clear el; omega, by clear el; omega, h3, hlm⟩, HI5.out, HP5.out⟩
                    · have hlrB : decide ((mid : Int) - (a' : Int) < (b' : Int) - (mid : Int)) = false := by clear el; simp; omega
                      have KR := Lib.hid (HIH.out (b' - (mid + 1)) (by clear el; omega) (mid + 1) b' lm d4 w4 (Nat.le_refl _) (by clear el; omega) (by omega) hlm HP4.out.row HS4.out H5.out)
                      rw [show ((mid + 1 : Nat) : Int) = (mid : Int) + 1 by clear el; omega] at KR
                      go_wp2_with fail
                      with_reducible refine KR.out.mono ?_
                      rintro e w5 ⟨rfl, d5, q1, q2, hp5⟩
                      have HP5 := Lib.hid (HP4.out.trans hp5); clear hp5
                      obtain ⟨z1, z2⟩ := H7.out d5 q1 q2
                      have HI5 : Hid (Inv N a b a' mid d d5) := Lib.hid ⟨q1.1.trans HS4.out, z1, fun R r1 r2 => by obtain ⟨g1, g2⟩ := z2 R r1 r2; exact HI3.out.glue R g1 g2⟩
                      clear q1 q2 z1 z2
                      go_wp2_with fail
                      go_roundg (mid - a')
                      case measure => clear el; omega
                      case rel => exact ⟨a', mid, lm, _, ap, d5, rfl, rfl, rfl, rfl, rfl, rfl, ⟨h1, m1, by clear el; omega, hlm⟩, HI5.out, HP5.out⟩
end Go.Proofs.Ythldjdkjgiebaaa.S64
