/-
  The walk of ArenaPlays. By an AI agent.
-/
import Derived.Test.YtbokndgellfoaaaArenaPlay0
import Derived.Test.YtbokndgellfoaaaArenaBlocks
set_option linter.unusedSimpArgs false
namespace Go.Proofs.Ytbokndgellfoaaa
open Go.RowKit Go.Maps
open Mm (Mem Blk)
/-- The copy has all that the memory has, in the same sizes. -/
def Cm (S T : Mem) : Prop := ∀ (b : Nat) (ws : List Int), Mm.get S.L b = some ws → ∃ us, Mm.get T.L b = some us ∧ us.length = ws.length
theorem Cm.refl (S : Mem) : Cm S S := fun _ ws h => ⟨ws, h, rfl⟩
theorem Cm.alloc (S : Mem) (n : Nat) : Cm S (S.alloc n) := fun b ws h => ⟨ws, by show Mm.get (S.L ++ _) b = _; rw [Mm.get_append, h]; rfl, rfl⟩
theorem Cm.put {S T : Mem} (h : Cm S T) (b i : Nat) (y : Int) : Cm S (T.put b i y) := fun k ws hk => by
  obtain ⟨us, h1, h2⟩ := h k ws hk
  by_cases e : k = b
  · subst e
    exact ⟨us.set i y, Mm.get_put_same i y h1, by rw [List.length_set]; exact h2⟩
  · exact ⟨us, by show Mm.get (Mm.put T.L b i y) k = _; rw [Mm.get_put_other _ i y e]; exact h1, h2⟩
/-- The copy, whichever way its Alloc went. -/
def Cx (C : Nat) (w : World) (q : Nat) (S : Mem) : Prop := ∃ T F, Ax C w q T F ∧ Cm S T
theorem calloc {C : Nat} {w : World} {q : Nat} {S : Mem} {F : Nat → Prop} (h : Ax C w q S F) (hC : C ≤ w.heap.size) (hl : S.last ≤ 1000000000000) :
    Calls Try.prog 9 #[.pointer (some ⟨q, 0, none⟩), .int .i64 1] w fun e w' => (∃ v, e = .returned (.int .u64 v)) ∧ Cx C w' q S ∧ Below C w w' := by
  have hfit := h.good.fits
  by_cases hn : 1 ≤ S.room - Mm.used S.L
  · refine (alloc_ok h hC 1 (Nat.le_refl _) hn hl).mono ?_
    rintro e w' ⟨rfl, F', ha, ht⟩
    exact ⟨⟨_, rfl⟩, ⟨_, _, ha, .alloc S 1⟩, ht.below (fun k hk => (h.foot hk).1) hC⟩
  · refine (alloc_no h 1 (.inr (by omega))).mono ?_
    rintro e w' ⟨rfl, hb⟩
    exact ⟨⟨_, rfl⟩, ⟨_, _, h.below hb (Nat.le_refl _), .refl S⟩, hb.mono hC⟩
/-- A word into the copy. -/
theorem cstore {C : Nat} {w : World} {q : Nat} {S : Mem} (h : Cx C w q S) (hC : C ≤ w.heap.size) {b : Nat} (hb : b < 18446744073709551616) {ws : List Int} (hg : Mm.get S.L b = some ws) (i : Nat) (hi : i < ws.length) (y : Int) :
    Calls Try.prog 16 #[.pointer (some ⟨q, 0, none⟩), .int .u64 (b : Int), .int .i64 (i : Int), .int .u64 y] w fun e w' => e = .returned (.int .i64 0) ∧ Cx C w' q S ∧ Below C w w' ∧
      Calls Try.prog 23 #[.pointer (some ⟨q, 0, none⟩), .int .u64 (b : Int), .int .i64 (i : Int)] w' (Same (we y 0) w') := by
  obtain ⟨T, F, ha, hm⟩ := h
  obtain ⟨us, h1, h2⟩ := hm b ws hg
  refine (store_ok ha hb h1 i (by omega) y).mono ?_
  rintro e w' ⟨rfl, F', ha', ht⟩
  exact ⟨rfl, ⟨_, _, ha', hm.put b i y⟩, ht.below (fun k hk => (ha.foot hk).1) hC, load_ok ha' hb (Mm.get_put_same i y h1) i (List.getElem?_set_self (by omega))⟩
set_option maxRecDepth 100000 in
set_option maxHeartbeats 8000000 in
theorem plays_any (n : Nat) (h1 : 1 ≤ n) (h2 : n ≤ 2000) (A : Option Addr) (N cap : Nat) (st : Nat → Stp) (w : World) (hN : N ≤ 60) (hst : ∀ j, (st j).b < 18446744073709551616)
    (hc : ∀ w', Below w.heap.size w w' → ∀ j, j < N → StepAt A w' j (st j)) :
    Calls Try.prog 3 #[.int .i64 (n : Int), .slice A N cap] w (Gives (.bool true) w) := by
  have d1 : decide ((60 : Int) < (N : Int)) = false := by simp; omega
  have d2 : decide ((2000 : Int) < (n : Int)) = false := by simp; omega
  have KN := Lib.hid (new_ok n h1 (by omega) w)
  have KM := Lib.hid fun w' => may_yes (n : Int) (by omega) (by omega) w'
  have HC := Lib.hid hc; clear hc
  have HST := Lib.hid hst; clear hst
  have RN : Hid (∀ w1 : World, w.heap.size ≤ w1.heap.size → ∃ G, Rx w.heap.size (w1.alloc (.cells #[.int .i64 (n : Int), .int .i64 0, .int .u64 0, .slice none 0 0] 43)) w1.heap.size ⟨n, 0, 0, []⟩ G ∧ ∀ k, G k → k = w1.heap.size) := Lib.hid fun w1 h => rx_new n h1 (by omega) w1 h
  go_enter Try.func3, Try.ntmps3
  go_wp2_with fail
  with_reducible refine KN.out.mono ?_
  rintro e w1 ⟨rfl, F, ha, hb, hs⟩
  go_wp2_with fail
  with_reducible refine (KM.out w1).mono ?_
  rintro e w' ⟨rfl, rfl⟩
  obtain ⟨G, hr, hG⟩ := RN.out w1 hb.size
  have hbx : Below w1.heap.size w1 (w1.alloc (.cells #[.int .i64 (n : Int), .int .i64 0, .int .u64 0, .slice none 0 0] 43)) := (Below.refl _ w1).alloc (Nat.le_refl _) _
  have T0 : Hid (Twin w.heap.size (w1.alloc (.cells #[.int .i64 (n : Int), .int .i64 0, .int .u64 0, .slice none 0 0] 43)) (w.heap.size + 1) w1.heap.size ⟨n, 0, 0, []⟩) := Lib.hid ⟨F, G, ha.below hbx (Nat.le_refl _), hr, fun k hk hf => by have := hG k hk; have := (ha.foot hf).2; omega⟩
  have B0 := Lib.hid (hb.trans (hbx.mono hb.size))
  clear hbx hr hG ha hb
  go_wp2_with fail
  rw [← hs] at T0 ⊢
  clear hs
  generalize w1.alloc (.cells #[.int .i64 (n : Int), .int .i64 0, .int .u64 0, .slice none 0 0] 43) = w2 at T0 B0 ⊢
  go_loopw [7, 8, 9, 10, 11] (fun i _ _ _ _ wr => ∃ (k : Nat) (S : Mem), k ≤ N ∧ i = .int .i64 k ∧ Hid (Twin w.heap.size wr (w.heap.size + 1) (w.heap.size + 2) S) ∧ Hid (Below w.heap.size w wr) ∧ S.faults ≤ k ∧ S.last ≤ k) (fun i _ _ _ _ wr => N - (intOf i).toNat)
  case atStart => exact ⟨0, ⟨n, 0, 0, []⟩, by omega, rfl, T0, B0, Nat.le_refl _, Nat.le_refl _⟩
  case round =>
    clear T0 B0
    obtain ⟨k, S, hk, rfl, HT, HB, hf, hl⟩ := hrel
    by_cases hlt : k < N
    · have hltZ : (k : Int) < (N : Int) := by omega
      have hsb := HST.out k
      have hcell := fun w' hb => HC.out w' hb k hlt
      rcases hs : st k with ⟨kd, sb, si, so, sn⟩
      rw [hs] at hsb hcell
      obtain ⟨v, c, S', -, hf', hl', hD, hM⟩ := step_both S ⟨kd, sb, si, so, sn⟩ HT.out.good hsb (by omega) (by omega)
      have K := HT.out.steps HB.out.size hD hM
      unfold Stp.cells stc we at K
      dsimp only at K hsb
      have HK := Lib.hid K; clear K hD hM hs
      obtain ⟨b, off, rfl, -⟩ := hcell wr HB.out
      have HCL : Hid (∀ w', Below w.heap.size w w' → w'.cell? ⟨b, off + k * 5, none⟩ = some (.int .i64 kd) ∧ w'.cell? ⟨b, off + k * 5 + 1, none⟩ = some (.int .u64 (sb : Int)) ∧ w'.cell? ⟨b, off + k * 5 + 2, none⟩ = some (.int .i64 si) ∧ w'.cell? ⟨b, off + k * 5 + 3, none⟩ = some (.int .u64 so) ∧ w'.cell? ⟨b, off + k * 5 + 4, none⟩ = some (.int .u64 sn)) := Lib.hid (fun w' hb => by
        obtain ⟨b', off', e, r⟩ := hcell w' hb
        cases e
        exact r)
      clear hcell
      obtain ⟨c0, c1, c2, c3, c4⟩ := HCL.out wr HB.out
      go_wp2_with fail
      with_reducible refine HK.out.mono ?_
      rintro e w3 ⟨rfl, hb3, hK3⟩
      have HK3 := Lib.hid hK3; clear hK3
      have HB3 := Lib.hid (HB.out.trans hb3); clear hb3 c0 c1 c2 c3 c4
      obtain ⟨c0, c1, c2, c3, c4⟩ := HCL.out w3 HB3.out
      go_wp2_with fail
      with_reducible refine HK3.out.mono ?_
      rintro e w4 ⟨rfl, hb4, hT4⟩
      have HT4 := Lib.hid hT4; clear hT4
      have HB4 := Lib.hid (HB3.out.trans hb4); clear hb4 c0 c1 c2 c3 c4
      have HKP : Hid (∀ w', Below w4.heap.size w4 w' → w'.cell? ⟨b, off + k * 5 + 1, none⟩ = some (.int .u64 (sb : Int)) ∧ w'.cell? ⟨w.heap.size + 2, 1, none⟩ = some (.int .i64 (S'.faults : Int))) := Lib.hid (fun w' hb => by
        refine ⟨(HCL.out w' (HB4.out.trans (hb.mono HB4.out.size))).2.1, ?_⟩
        obtain ⟨F, G, hA, ⟨vv, hh, hR, -⟩, -⟩ := (HT4.out.below hb).both
        exact hR.c1)
      have hlen : (nos S'.L).length ≤ 1000000 := Nat.le_trans (nos_len HT4.out.good) (by omega)
      have T1 : Hid (∀ w', Below w4.heap.size w4 w' → Calls Try.prog 11 #[.pointer (some ⟨w.heap.size + 1, 0, none⟩)] w' (Same (.int .i64 (Mm.used S'.L : Int)) w')) := Lib.hid (fun w' hb => by
        obtain ⟨F, G, hA, hR, -⟩ := (HT4.out.below hb).both
        exact used_any hA)
      have T2 : Hid (∀ w', Below w4.heap.size w4 w' → Calls Try.prog 19 #[.pointer (some ⟨w.heap.size + 2, 0, none⟩)] w' (Same (.int .i64 (Mm.used S'.L : Int)) w')) := Lib.hid (fun w' hb => by
        obtain ⟨F, G, hA, hR, -⟩ := (HT4.out.below hb).both
        exact rused_any hR)
      have T3 : Hid (∀ w', Below w4.heap.size w4 w' → Calls Try.prog 12 #[.pointer (some ⟨w.heap.size + 1, 0, none⟩)] w' (Same (.int .i64 (S'.faults : Int)) w')) := Lib.hid (fun w' hb => by
        obtain ⟨F, G, hA, hR, -⟩ := (HT4.out.below hb).both
        exact faults_any hA)
      have T4 : Hid (∀ w', Below w4.heap.size w4 w' → Calls Try.prog 13 #[.pointer (some ⟨w.heap.size + 1, 0, none⟩), .int .u64 (sb : Int)] w' (Same (.int .i64 (szOf S' sb : Int)) w')) := Lib.hid (fun w' hb => by
        obtain ⟨F, G, hA, hR, -⟩ := (HT4.out.below hb).both
        exact size_any hA hsb)
      have T5 : Hid (∀ w', Below w4.heap.size w4 w' → Calls Try.prog 20 #[.pointer (some ⟨w.heap.size + 2, 0, none⟩), .int .u64 (sb : Int)] w' (Same (.int .i64 (szOf S' sb : Int)) w')) := Lib.hid (fun w' hb => by
        obtain ⟨F, G, hA, hR, -⟩ := (HT4.out.below hb).both
        exact rsize_any hR)
      have T6 : Hid (∀ w', Below w4.heap.size w4 w' → Calls Try.prog 14 #[.pointer (some ⟨w.heap.size + 1, 0, none⟩)] w' (Lists (fun ts => ts = nos S'.L) w')) := Lib.hid (fun w' hb => by
        obtain ⟨F, G, hA, hR, -⟩ := (HT4.out.below hb).both
        exact blocks_any hA (by omega))
      have T7 : Hid (∀ w', Below w4.heap.size w4 w' → Calls Try.prog 22 #[.pointer (some ⟨w.heap.size + 2, 0, none⟩)] w' (Row8 (nos S'.L) w')) := Lib.hid (fun w' hb => by
        obtain ⟨F, G, hA, hR, -⟩ := (HT4.out.below hb).both
        exact rblocks_any hR)
      have B : Hid (Below w4.heap.size w4 w4.drew) := Lib.hid (Below.refl _ _).drew
      obtain ⟨c1, x1⟩ := HKP.out w4 (Below.refl _ _)
      go_wp2_with fail
      go_region_held3 (fun w' => w'.cell? ⟨b, off + k * 5 + 1, none⟩ = some (.int .u64 (sb : Int)) ∧ w'.cell? ⟨w.heap.size + 2, 1, none⟩ = some (.int .i64 (S'.faults : Int)))
        (with_reducible exact HKP.out _ B.out)
        (first
          | (go_at_call 11; (with_reducible refine (T1.out _ B.out).mono ?_); rintro e w' ⟨rfl, rfl⟩)
          | (go_at_call 19; (with_reducible refine (T2.out _ B.out).mono ?_); rintro e w' ⟨rfl, rfl⟩)
          | (go_at_call 12; (with_reducible refine (T3.out _ B.out).mono ?_); rintro e w' ⟨rfl, rfl⟩)
          | (go_at_call 13; (with_reducible refine (T4.out _ B.out).mono ?_); rintro e w' ⟨rfl, rfl⟩)
          | (go_at_call 20; (with_reducible refine (T5.out _ B.out).mono ?_); rintro e w' ⟨rfl, rfl⟩)
          | (go_at_call 14; (with_reducible refine (T6.out _ B.out).mono ?_); rintro e wA ⟨vA, tA, rfl, hA1, hA2, -, hb⟩; subst hA1; have RA := Lib.hid hA2; have B := Lib.hid (B.out.trans (hb.mono B.out.size)); clear hb hA2)
          | (go_at_call 22; (with_reducible refine (T7.out _ B.out).mono ?_); rintro e wB ⟨vB, rfl, hB2, hb⟩; have RA := Lib.hid (own_keep RA.out (fun k hk => hb.block k (RA.out.lt k hk).2)); have RB := Lib.hid hB2; have B := Lib.hid (B.out.trans (hb.mono B.out.size)); clear hb hB2)
          | (go_at_call 21; (with_reducible refine (words_same (nos S'.L) _ _ _ _ _ hlen RA.out RB.out).mono ?_); rintro e wW ⟨rfl, hb⟩; have B := Lib.hid (B.out.trans (hb.mono B.out.size)); clear hb)
          | fail)
      all_goals go_wp2
      all_goals go_roundw
      all_goals first | exact ⟨k + 1, S', by omega, by go_num, Lib.hid (HT4.out.below B.out), Lib.hid (HB4.out.trans (B.out.mono HB4.out.size)), by omega, by omega⟩ | (simp [intOf]; omega)
    · obtain rfl : k = N := by omega
      obtain ⟨w9, rfl⟩ : ∃ w9, w9 = wr := ⟨wr, rfl⟩
      have hltZ : ¬ ((k : Int) < (k : Int)) := by omega
      have hG := HT.out.good
      have hll : S.last ≤ 1000000000000 := by omega
      have HAX : Hid (∃ F, ∀ w', Below w9.heap.size w9 w' → Ax w.heap.size w' (w.heap.size + 1) S F) := Lib.hid (by
        obtain ⟨F, G, hA, hR, -⟩ := HT.out.both
        exact ⟨F, fun w' hb => hA.below hb (Nat.le_refl _)⟩)
      obtain ⟨F, hAX⟩ := HAX.out
      clear HAX
      have HAX := Lib.hid hAX; clear hAX
      have KC := Lib.hid (copy_any (HAX.out w9 (Below.refl _ _)) hll)
      go_wp2_with fail
      with_reducible refine KC.out.mono ?_
      rintro e w3 ⟨rfl, F3, hA3, hb3⟩
      have KL := Lib.hid (calloc hA3 hb3.size hll); clear hA3
      have HB3 := Lib.hid hb3; clear hb3
      go_wp2_with fail
      with_reducible refine KL.out.mono ?_
      rintro e w4 ⟨⟨cv, rfl⟩, hX4, hb4⟩
      have HX4 := Lib.hid hX4; clear hX4
      have HB4 := Lib.hid (HB3.out.trans hb4); clear hb4 KL KC HB3
      go_wp2_with fail
      obtain ⟨M, hM⟩ : ∃ M, M = S.L.length := ⟨_, rfl⟩
      have hM6 : M ≤ 65536 := by rw [hM]; exact len_le_used hG
      have HM := Lib.hid hM; clear hM
      have HRF0 : Hid (∃ (va : Option Addr) (vc : Nat) (hh : Nat → Nat), ∀ w', Below w9.heap.size w9 w' → Rf w.heap.size w' (w.heap.size + 2) (.slice va M vc) hh S) := Lib.hid (by
        obtain ⟨F, G, hA, ⟨vv, hh, hR, hGp⟩, -⟩ := HT.out.both
        obtain ⟨va, vc, rfl⟩ := hR.lens
        exact ⟨va, vc, hh, fun w' hb => HM.out ▸ hR.keep fun k hk => hb.block k (hR.foot hk).2⟩)
      obtain ⟨va, vc, hh, hRF⟩ := HRF0.out
      have HRF := Lib.hid hRF; clear hRF HRF0
      go_loopw [13, 14, 15, 16, 17, 18, 19, 20] (fun i _ _ _ _ _ _ _ wq => ∃ (j : Nat), j ≤ M ∧ i = .int .i64 j ∧ Hid (Cx w9.heap.size wq (w9.heap.size + 1) S) ∧ Hid (Below w9.heap.size w9 wq)) (fun i _ _ _ _ _ _ _ _ => M - (intOf i).toNat)
      case atStart => exact ⟨0, by omega, rfl, HX4, HB4⟩
      case round =>
        clear HX4 HB4
        obtain ⟨j, hj, rfl, HX, HBq⟩ := hrel
        by_cases hjl : j < M
        · have hjZ : (j : Int) < (M : Int) := by omega
          obtain ⟨⟨bn, ws⟩, hbk⟩ : ∃ bk, S.L[j]? = some bk := ⟨_, List.getElem?_eq_getElem (by rw [← HM.out]; exact hjl)⟩
          have hmem := List.mem_of_getElem? hbk
          have hget : Mm.get S.L bn = some ws := Mm.get_of_mem hG.up _ hmem
          have hbn : bn < 18446744073709551616 := by have := (hG.up.mem _ hmem).2; simp only at this; omega
          obtain ⟨g, c, e, -, -⟩ := (HRF.out wr HBq.out).at hbk
          injection e with e1 e2 e3
          subst e1; subst e3
          clear e2
          obtain ⟨L, hL⟩ : ∃ L, L = ws.length := ⟨_, rfl⟩
          have hL6 : L ≤ 65536 := by have := Mm.used_len hget; have := hG.fits; have := hG.r2; omega
          have HCX : Hid (∀ w', Below w9.heap.size w9 w' → w'.cell? ⟨w.heap.size + 2, 3, none⟩ = some (.slice (some ⟨g, 0, none⟩) M vc) ∧ w'.cell? ⟨g, j * 2, none⟩ = some (.int .u64 (bn : Int)) ∧ w'.cell? ⟨g, j * 2 + 1, none⟩ = some (.slice (some ⟨hh bn, 0, none⟩) L L)) := Lib.hid (fun w' hb => by
            obtain ⟨g', c', e, r1, r2⟩ := (HRF.out w' hb).at hbk
            injection e with e1 e2 e3
            cases e1
            refine ⟨(HRF.out w' hb).c3, r1, ?_⟩
            rw [hL]
            exact r2)
          have HW : Hid (∀ l, l < L → ∃ y, ws[l]? = some y) := Lib.hid (fun l hl => ⟨_, List.getElem?_eq_getElem (by omega)⟩)
          have HGT : Hid (Mm.get S.L bn = some ws) := Lib.hid hget
          have HL := Lib.hid hL; clear hL hget hmem hbk
          obtain ⟨x3, g0, g1⟩ := HCX.out wr HBq.out
          obtain ⟨w8, rfl⟩ : ∃ w8, w8 = wr := ⟨wr, rfl⟩
          go_wp2_with fail
          clear x3 g0 g1
          go_loopw [14, 15, 16, 17, 18, 19, 20] (fun i _ _ _ _ _ _ wq => ∃ (l : Nat), l ≤ L ∧ i = .int .i64 l ∧ Hid (Cx w9.heap.size wq (w9.heap.size + 1) S) ∧ Hid (Below w9.heap.size w9 wq)) (fun i _ _ _ _ _ _ _ => L - (intOf i).toNat)
          case atStart => exact ⟨0, by omega, rfl, HX, HBq⟩
          case round =>
            clear HX HBq
            obtain ⟨l, hl', rfl, HX, HBq⟩ := hrel
            obtain ⟨x3, g0, g1⟩ := HCX.out wr HBq.out
            by_cases hll' : l < L
            · have hlZ : (l : Int) < (L : Int) := by omega
              obtain ⟨y, hy⟩ := HW.out l hll'
              have KA : Hid (∀ w', Below w9.heap.size w9 w' → Calls Try.prog 23 #[.pointer (some ⟨w.heap.size + 1, 0, none⟩), .int .u64 (bn : Int), .int .i64 (l : Int)] w' (Same (we y 0) w')) := Lib.hid (fun w' hb => load_ok (HAX.out w' hb) hbn HGT.out l hy)
              have KS := Lib.hid (fun y' => cstore HX.out HBq.out.size hbn HGT.out l (by have := HL.out; omega) y')
              have HXC : Hid (∀ w', Below w9.heap.size w9 w' → w'.cell? ⟨hh bn, l, none⟩ = some (.int .u64 y)) := Lib.hid (fun w' hb => ((HRF.out w' hb).cellb HGT.out hy).1)
              clear hy
              unfold we at KA KS
              go_wp2_with fail
              with_reducible refine (KA.out wr HBq.out).mono ?_
              rintro e w' ⟨rfl, rfl⟩
              go_wp2_with fail
              with_reducible refine (KS.out _).mono ?_
              rintro e w5 ⟨rfl, hX5, hb5, hK5⟩
              have HX5 := Lib.hid hX5; clear hX5
              have HB5 := Lib.hid (HBq.out.trans hb5); clear hb5
              have HK5 := Lib.hid hK5; clear hK5 x3 g0 g1
              obtain ⟨x3, g0, g1⟩ := HCX.out w5 HB5.out
              have xc := HXC.out w5 HB5.out
              go_wp2_with fail
              with_reducible refine HK5.out.mono ?_
              rintro e w' ⟨rfl, rfl⟩
              go_wp2_with fail
              with_reducible refine (KA.out w5 HB5.out).mono ?_
              rintro e w' ⟨rfl, rfl⟩
              go_wp2_with fail
              go_roundw
              case rel => exact ⟨l + 1, by omega, by go_num, HX5, HB5⟩
              case measure => simp [intOf]; omega
            · obtain rfl : l = L := by omega
              have hlZ : ¬ ((l : Int) < (l : Int)) := by omega
              go_wp2_with fail
              go_roundw
              case rel => exact ⟨j + 1, by omega, by go_num, HX, HBq⟩
              case measure => simp [intOf]; omega
        · obtain rfl : j = M := by omega
          have hjZ : ¬ ((j : Int) < (j : Int)) := by omega
          have x3 := (HRF.out wr HBq.out).c3
          have KU := Lib.hid (used_any (HAX.out wr HBq.out))
          have KR := Lib.hid (rused_any ⟨_, _, HRF.out wr HBq.out, rfl⟩)
          go_wp2_with fail
          with_reducible refine KU.out.mono ?_
          rintro e w' ⟨rfl, rfl⟩
          go_wp2_with fail
          with_reducible refine KR.out.mono ?_
          rintro e w' ⟨rfl, rfl⟩
          go_wp2_with fail
          with_reducible refine (awake_any wr).mono ?_
          rintro e w' ⟨rfl, hb⟩
          go_wp2_with fail
          go_ret
          exact ⟨rfl, (HB.out.trans (HBq.out.mono HB.out.size)).trans (hb.mono (Nat.le_trans HB.out.size HBq.out.size))⟩
end Go.Proofs.Ytbokndgellfoaaa
