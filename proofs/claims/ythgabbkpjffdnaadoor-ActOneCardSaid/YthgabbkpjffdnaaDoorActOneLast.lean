/-
  What is proved: ActOne (promise P9.3) returns true for every list of sizes and every act. Its conditions: the four listed tables (three of Go's own library, and the names of the kinds) hold what their initialisers lay (tied to the program's text). By an AI agent.
-/
import Derived.Test.YthgabbkpjffdnaaDoorActOneA
import Derived.Test.YthgabbkpjffdnaaDoorActCommon
import Derived.ShutString
import Derived.ChangeOld
import Derived.Below
import Derived.WideKeyPair
set_option linter.unusedSimpArgs false
set_option linter.unusedVariables false
namespace Go.Proofs.YthgabbkpjffdnaaDoor
open Go.RowKit Go.Maps
open Mm (Mem Blk)
open Ac (A)
/-- A row of bytes that came in. -/
def Bytes (w : World) (a : Option Addr) (N : Nat) (z : Nat → Nat) : Prop := ∀ j, j < N → ∃ b off, a = some ⟨b, off, none⟩ ∧ b < w.heap.size ∧ w.cell? ⟨b, off + j, none⟩ = some (.int .u8 (z j : Int))
theorem Bytes.below {w w' : World} {a : Option Addr} {N : Nat} {z : Nat → Nat} (h : Bytes w a N z) (hb : Below w.heap.size w w') : Bytes w' a N z := fun j hj =>
  let ⟨b, off, ea, hlt, hc⟩ := h j hj
  ⟨b, off, ea, Nat.lt_of_lt_of_le hlt hb.size, (hb.cell (p := ⟨b, off + j, none⟩) hlt).trans hc⟩
theorem Lists.wl {S : Mem} {w : World} {e : Ending} {w' : World} (h : Lists (fun ts => ts = nos S.L) w e w') : Flat ((nos S.L).map fun n : Nat => (n : Int)) w e w' := by
  obtain ⟨v, ts, he, rfl, hr, -, hb⟩ := h
  refine ⟨v, he, Wl.of_row ?_, hb⟩
  rw [List.length_map, ← us_ws]
  exact hr
set_option maxRecDepth 100000 in
set_option maxHeartbeats 4000000 in
theorem one_long (a : Option Addr) (N cap : Nat) (x : A) (w : World) (hN : 10 < N) (hm : N ≤ 9223372036854775807) (hNm : Nm w) (hP : Dt.Pow w) :
    Calls Tryd.prog 5 #[.slice a N cap, av x] w (Gives (.bool true) w) := by
  have HB := Lib.hid (boxed_below w x)
  have HW := Lib.hid (awake_any (boxed w x) (hNm.below HB.out) (hP.below HB.out))
  have h10 : (10 : Int) < (N : Int) := by omega
  go_enter Tryd.func5, Tryd.ntmps5
  go_wp2_with fail
  with_reducible refine HW.out.mono ?_
  rintro e w1 ⟨rfl, hb⟩
  go_wp2
  go_ret
  exact ⟨rfl, HB.out.trans (hb.mono HB.out.size)⟩
set_option maxRecDepth 100000 in
set_option maxHeartbeats 8000000 in
/-- ████ ActOne. ████ -/
theorem one_any (a : Option Addr) (N cap : Nat) (z : Nat → Nat) (x : A) (w : World) (hN : N ≤ 10) (hz : ∀ j, z j < 256) (hA : Bytes w a N z) (hx : Fits x) (hNm : Nm w) (hP : Dt.Pow w) :
    Calls Tryd.prog 5 #[.slice a N cap, av x] w (Gives (.bool true) w) := by
  have HB := Lib.hid (boxed_below w x)
  have K5 : Hid (∀ w', Calls Tryd.prog 8 #[.int .i64 3000] w' (Made 3000 w')) := Lib.hid (fun w' => made_new 3000 (by omega) (by omega) w')
  have HX := Lib.hid hx; clear hx
  have HZ := Lib.hid hz; clear hz
  have KW : Hid (∀ w', Below w.heap.size w w' → Calls Tryd.prog 7 #[] w' (Gives (.bool true) w')) := Lib.hid fun w' hb => awake_any w' (hNm.below hb) (hP.below hb)
  have HBy : Hid (∀ w', Below w.heap.size w w' → Bytes w' a N z) := Lib.hid fun w' hb => hA.below hb
  have KR : Hid (∀ w', Calls Tryd.prog 10 #[.agg #[.int .i64 x.k, .int .u64 (x.b : Int), .int .i64 x.c, .int .u64 (x.o : Int), .int .u64 (x.n : Int)]] w' (Gives (.bool (Ac.right x)) w')) := Lib.hid fun w' => right_any x HX.out.c1 w'
  have KWr : Hid (∀ w', Calls Tryd.prog 12 #[.agg #[.int .i64 x.k, .int .u64 (x.b : Int), .int .i64 x.c, .int .u64 (x.o : Int), .int .u64 (x.n : Int)]] w' (Gives (.bool (Ac.writes x)) w')) := Lib.hid fun w' => writes_any x HX.out.c1 w'
  clear hNm hP hA
  have h10 : ¬ (10 : Int) < (N : Int) := by omega
  have HBoxed : Hid (∀ w', Below (boxed w x).heap.size (boxed w x) w' → w'.cell? ⟨w.heap.size, 0, none⟩ = some (.int .i64 x.k) ∧ w'.cell? ⟨w.heap.size, 1, none⟩ = some (.int .u64 x.b) ∧ w'.cell? ⟨w.heap.size, 2, none⟩ = some (.int .i64 x.c) ∧ w'.cell? ⟨w.heap.size, 3, none⟩ = some (.int .u64 x.o) ∧ w'.cell? ⟨w.heap.size, 4, none⟩ = some (.int .u64 x.n)) := Lib.hid fun w' hb => boxed_cells hb
  go_enter Tryd.func5, Tryd.ntmps5
  go_wp2_with fail
  obtain ⟨W, hW⟩ : ∃ W, W = boxed w x := ⟨_, rfl⟩
  rw [show w.alloc (.cells #[.int .i64 x.k, .int .u64 (x.b : Int), .int .i64 x.c, .int .u64 (x.o : Int), .int .u64 (x.n : Int)] 26) = W from hW.symm]
  rw [← hW] at HB HBoxed
  clear hW
  with_reducible refine (K5.out _).mono ?_
  rintro e w1 ⟨p, rfl, hp, F0, hA, hb⟩
  have HA0 := Lib.hid hA
  have HB0 := Lib.hid hb
  clear hA hb hp
  go_wp2_with fail
  go_loopw [6] (fun iv wr => ∃ (i : Nat) (S : Mem) (F : Nat → Prop), i ≤ N ∧ iv = .int .i64 i ∧ Small i S ∧ Ax W.heap.size wr p S F ∧ Below W.heap.size W wr) (fun i _ => N - (intOf i).toNat)
  case atStart => exact ⟨0, _, F0, Nat.zero_le _, rfl, Small.start, HA0.out, HB0.out⟩
  case round =>
    obtain ⟨i, S, F, hi, rfl, hS, hA, hb⟩ := hrel
    clear HA0 HB0
    by_cases hlt : i < N
    · have hltZ : (i : Int) < (N : Int) := by omega
      obtain ⟨zb, zo, rfl, -, hc⟩ := HBy.out wr (HB.out.trans (hb.mono HB.out.size)) i hlt
      have hzi := HZ.out i
      have hz0 : (0 : Int) ≤ (z i : Int) := by omega
      have hz1 : (z i : Int) ≤ 255 := by omega
      have hu := hS.used
      have hr := hS.room
      have hla := hS.last
      have KA : Hid (Calls Tryd.prog 24 #[.pointer (some ⟨p, 0, none⟩), .int .i64 ((z i : Int) % 20 + 1)] wr (Goes (.int .u64 ((S.last : Int) + 1)) W.heap.size p (S.alloc (z i % 20 + 1)) wr)) := Lib.hid (by
        have h := alloc_ok hA hb.size (z i % 20 + 1) (by omega) (by omega) (by omega)
        rw [show ((z i % 20 + 1 : Nat) : Int) = (z i : Int) % 20 + 1 by omega] at h
        exact h.mono fun _ _ ht => ht.goes hA hb.size)
      have HS := Lib.hid hS
      have HBr := Lib.hid hb
      clear hS hA hb hu hr hla
      go_wp2_with (go_at_call 24; refine KA.out.mono ?_; rintro e w2 ⟨rfl, F2, hA2, hb2⟩)
      go_roundw
      case rel => exact ⟨i + 1, _, F2, by omega, by go_num, HS.out.next (by omega), hA2, HBr.out.trans hb2⟩
      case measure => simp [intOf]; omega
    · obtain rfl : i = N := by omega
      have hG := hA.good
      have hla := hS.last
      have hfa := hS.faults
      have HE := Lib.hid hS.each
      have K1 := Lib.hid (words_any hA (by omega) (fun b hb => by have := HE.out b hb; omega))
      have HAS : Hid (∀ w', Below wr.heap.size wr w' → Ax W.heap.size w' p S F) := Lib.hid fun w' hb' => hA.below hb' (Nat.le_refl _)
      have HFt : Hid (∀ k, F k → W.heap.size ≤ k ∧ k < wr.heap.size) := Lib.hid fun k hk => hA.foot hk
      obtain ⟨v, S', hroom, hf', hl', hdid, hdo, -⟩ := act_both S x hG HX.out.b HX.out.c1 (by omega) (by omega)
      have HD := Lib.hid hdid
      have HDo := Lib.hid hdo
      have HG := Lib.hid hG
      have HBr := Lib.hid hb
      have hfaZ : (S.faults : Int) = 0 := by omega
      have HSf := Lib.hid hfa
      have HSl := Lib.hid hla
      clear hdid hdo hG hb hA hS hla hfa
      go_wp2_with fail
      with_reducible refine K1.out.mono ?_
      rintro e w1 ⟨v1, rfl, hw1, hb1⟩
      have HW1 := Lib.hid hw1
      have Hb1 := Lib.hid hb1
      have K2 := Lib.hid ((blocks_any (HAS.out _ hb1) (by have := HSl.out; omega)).mono fun _ _ h => Lists.wl h)
      clear hw1 hb1
      go_wp2_with fail
      with_reducible refine K2.out.mono ?_
      rintro e w2 ⟨v2, rfl, hw2, hb2⟩
      have HW1 := Lib.hid (HW1.out.below hb2)
      have HW2 := Lib.hid (hw2.mono Hb1.out.size)
      have Hb2 := Lib.hid (Hb1.out.trans (hb2.mono Hb1.out.size))
      clear hw2 hb2
      have K3 := Lib.hid (faults_any (HAS.out _ Hb2.out))
      go_wp2_with fail
      with_reducible refine K3.out.mono ?_
      rintro e w2' ⟨rfl, rfl⟩
      have HBr2 := Lib.hid (HBr.out.trans (Hb2.out.mono HBr.out.size))
      obtain ⟨c0, c1, c2, c3, c4⟩ := HBoxed.out _ HBr2.out
      have K4 := Lib.hid (HDo.out W.heap.size w2 p F (HAS.out _ Hb2.out) HBr2.out.size)
      unfold av at K4
      go_wp2_with fail
      with_reducible refine K4.out.mono ?_
      rintro e w3 ⟨rfl, F', hA3, ht⟩
      have HW1 := Lib.hid (HW1.out.tn ht (fun k hk => (HFt.out k hk).2))
      have HW2 := Lib.hid (HW2.out.tn ht (fun k hk => (HFt.out k hk).2))
      have HBr3 := Lib.hid (HBr2.out.trans (ht.below (fun k hk => (HFt.out k hk).1) HBr2.out.size))
      have HA3 := Lib.hid hA3
      clear hA3 ht c0 c1 c2 c3 c4
      obtain ⟨c0, c1, c2, c3, c4⟩ := HBoxed.out _ HBr3.out
      have HU : Hid (Mm.used S.L ≤ 65536) := Lib.hid (by have := HG.out.fits; have := HG.out.r2; omega)
      have HLn : Hid (S.L.length ≤ 65536) := Lib.hid (by have := nos_len HG.out; simpa [nos] using this)
      have KRt := Lib.hid (KR.out w3)
      cases hr : Ac.right x with
      | false =>
        rw [hr] at KRt
        go_wp2_with fail
        with_reducible refine KRt.out.mono ?_
        rintro e w4 ⟨rfl, hb4⟩
        have Hb4 := Lib.hid hb4
        clear c0 c1 c2 c3 c4
        have HBr4' := Lib.hid (HBr3.out.trans (hb4.mono HBr3.out.size))
        obtain ⟨c0, c1, c2, c3, c4⟩ := HBoxed.out _ HBr4'.out
        clear hb4
        obtain rfl : S' = S := did_none HD.out (.inl hr)
        have HA4 : Hid (∀ w', Below w4.heap.size w4 w' → Ax W.heap.size w' p S' F') := Lib.hid fun w' h => (HA3.out.below Hb4.out (Nat.le_refl _)).below h (Nat.le_refl _)
        have HW1 := Lib.hid (HW1.out.below Hb4.out)
        have HW2 := Lib.hid (HW2.out.below Hb4.out)
        have HBr4 := Lib.hid (HBr3.out.trans (Hb4.out.mono HBr3.out.size))
        have T1 := Lib.hid (words_any (HA4.out w4 (Below.refl _ _)) (by have := HSl.out; omega) (fun b hb => by have := HE.out b hb; omega))
        go_wp2_with fail
        with_reducible refine T1.out.mono ?_
        rintro e w5 ⟨v5, rfl, hw5, hb5⟩
        have T2 := Lib.hid (wl_same (flat S'.L) _ _ v5 v1 w5 (by have := HU.out; rw [flat_len]; omega) hw5 (HW1.out.below hb5))
        have B5 := Lib.hid hb5
        clear hw5 hb5
        go_wp2_with fail
        with_reducible refine T2.out.mono ?_
        rintro e w6 ⟨rfl, hb6⟩
        have B6 := Lib.hid (B5.out.trans (hb6.mono B5.out.size)); clear hb6
        have T3 := Lib.hid ((blocks_any (HA4.out w6 B6.out) (by have := HSl.out; omega)).mono fun _ _ h => Lists.wl h)
        go_wp2_with fail
        with_reducible refine T3.out.mono ?_
        rintro e w7 ⟨v7, rfl, hw7, hb7⟩
        have B7 := Lib.hid (B6.out.trans (hb7.mono B6.out.size)); clear hb7
        have T4 := Lib.hid (wl_same ((nos S'.L).map fun n : Nat => (n : Int)) _ _ v7 v2 w7 (by have := HLn.out; simp [nos]; omega) hw7 (HW2.out.below B7.out))
        clear hw7
        go_wp2_with fail
        with_reducible refine T4.out.mono ?_
        rintro e w8 ⟨rfl, hb8⟩
        have B8 := Lib.hid (B7.out.trans (hb8.mono B7.out.size)); clear hb8
        have T5 := Lib.hid (faults_any (HA4.out w8 B8.out))
        go_wp2_with fail
        with_reducible refine T5.out.mono ?_
        rintro e w8' ⟨rfl, rfl⟩
        have BW := Lib.hid (HBr4.out.trans (B8.out.mono HBr4.out.size))
        have BW := Lib.hid (HB.out.trans (BW.out.mono HB.out.size))
        go_wp2_with fail
        with_reducible refine (KW.out _ BW.out).mono ?_
        rintro e w9 ⟨rfl, hb9⟩
        go_wp2
        go_ret
        exact ⟨rfl, BW.out.trans (hb9.mono BW.out.size)⟩
      | true =>
        rw [hr] at KRt
        by_cases hk0 : x.k = 0
        · have hk0B : (x.k == 0) = true := by simp [hk0]
          have HK0 := Lib.hid hk0; clear hk0
          go_wp2_with fail
          with_reducible refine KRt.out.mono ?_
          rintro e w4 ⟨rfl, hb4⟩
          have Hb4 := Lib.hid hb4
          clear c0 c1 c2 c3 c4
          have HBr4' := Lib.hid (HBr3.out.trans (hb4.mono HBr3.out.size))
          obtain ⟨c0, c1, c2, c3, c4⟩ := HBoxed.out _ HBr4'.out
          clear hb4
          obtain rfl : S' = S := did_none HD.out (.inr HK0.out)
          have HA4 : Hid (∀ w', Below w4.heap.size w4 w' → Ax W.heap.size w' p S' F') := Lib.hid fun w' h => (HA3.out.below Hb4.out (Nat.le_refl _)).below h (Nat.le_refl _)
          have HW1 := Lib.hid (HW1.out.below Hb4.out)
          have HW2 := Lib.hid (HW2.out.below Hb4.out)
          have HBr4 := Lib.hid (HBr3.out.trans (Hb4.out.mono HBr3.out.size))
          have T1 := Lib.hid (words_any (HA4.out w4 (Below.refl _ _)) (by have := HSl.out; omega) (fun b hb => by have := HE.out b hb; omega))
          go_wp2_with fail
          with_reducible refine T1.out.mono ?_
          rintro e w5 ⟨v5, rfl, hw5, hb5⟩
          have T2 := Lib.hid (wl_same (flat S'.L) _ _ v5 v1 w5 (by have := HU.out; rw [flat_len]; omega) hw5 (HW1.out.below hb5))
          have B5 := Lib.hid hb5
          clear hw5 hb5
          go_wp2_with fail
          with_reducible refine T2.out.mono ?_
          rintro e w6 ⟨rfl, hb6⟩
          have B6 := Lib.hid (B5.out.trans (hb6.mono B5.out.size)); clear hb6
          have T3 := Lib.hid ((blocks_any (HA4.out w6 B6.out) (by have := HSl.out; omega)).mono fun _ _ h => Lists.wl h)
          go_wp2_with fail
          with_reducible refine T3.out.mono ?_
          rintro e w7 ⟨v7, rfl, hw7, hb7⟩
          have B7 := Lib.hid (B6.out.trans (hb7.mono B6.out.size)); clear hb7
          have T4 := Lib.hid (wl_same ((nos S'.L).map fun n : Nat => (n : Int)) _ _ v7 v2 w7 (by have := HLn.out; simp [nos]; omega) hw7 (HW2.out.below B7.out))
          clear hw7
          go_wp2_with fail
          with_reducible refine T4.out.mono ?_
          rintro e w8 ⟨rfl, hb8⟩
          have B8 := Lib.hid (B7.out.trans (hb8.mono B7.out.size)); clear hb8
          have T5 := Lib.hid (faults_any (HA4.out w8 B8.out))
          go_wp2_with fail
          with_reducible refine T5.out.mono ?_
          rintro e w8' ⟨rfl, rfl⟩
          have BW := Lib.hid (HBr4.out.trans (B8.out.mono HBr4.out.size))
          have BW := Lib.hid (HB.out.trans (BW.out.mono HB.out.size))
          go_wp2_with fail
          with_reducible refine (KW.out _ BW.out).mono ?_
          rintro e w9 ⟨rfl, hb9⟩
          go_wp2
          go_ret
          exact ⟨rfl, BW.out.trans (hb9.mono BW.out.size)⟩

        have hk0B : (x.k == 0) = false := by simp [hk0]
        by_cases hk56 : x.k = 5 ∨ x.k = 6
        · have HC : Hid (S'.L.length = S.L.length ∨ (S'.L.length = S.L.length + 1 ∧ x.k = 5) ∨ (S'.L.length + 1 = S.L.length ∧ x.k = 6)) := Lib.hid (did_block HD.out HG.out hk56)
          have HCB : Hid (((x.k == 5) = true ∧ (((S'.L.length : Int) - (S.L.length : Int) == 0) = true ∨ (((S'.L.length : Int) - (S.L.length : Int) == 0) = false ∧ ((S'.L.length : Int) - (S.L.length : Int) == 1) = true))) ∨ ((x.k == 5) = false ∧ (x.k == 6) = true ∧ (((S'.L.length : Int) - (S.L.length : Int) == 0) = true ∨ (((S'.L.length : Int) - (S.L.length : Int) == 0) = false ∧ ((S'.L.length : Int) - (S.L.length : Int) == 1) = false ∧ ((S'.L.length : Int) - (S.L.length : Int) == -1) = true)))) := Lib.hid (by
            have h := HC.out
            simp only [beq_iff_eq, beq_eq_false_iff_ne]
            rcases hk56 with e | e
            · left
              refine ⟨e, ?_⟩
              rcases h with h | ⟨h, -⟩ | ⟨-, h⟩
              · left; omega
              · right; omega
              · omega
            · right
              refine ⟨by omega, e, ?_⟩
              rcases h with h | ⟨-, h⟩ | ⟨h, -⟩
              · left; omega
              · omega
              · right; omega)
          have HLn' : Hid (S'.L.length ≤ 65537) := Lib.hid (by have := HC.out; have := HLn.out; omega)
          have HSl' : Hid (S'.last ≤ 1000000) := Lib.hid (by have := HSl.out; omega)
          obtain ⟨m', hm'⟩ : ∃ m', m' = S'.L.length := ⟨_, rfl⟩
          obtain ⟨m, hm⟩ : ∃ m, m = S.L.length := ⟨_, rfl⟩
          have E' : Hid (((nos S'.L).map fun n : Nat => (n : Int)).length = m') := Lib.hid (by rw [hm']; simp [nos])
          have E : Hid (((nos S.L).map fun n : Nat => (n : Int)).length = m) := Lib.hid (by rw [hm]; simp [nos])
          rw [← hm', ← hm] at HCB
          rw [← hm'] at HLn'
          rw [← hm] at HLn
          have b0 := HLn.out
          have b1 := HLn'.out
          clear hm hm' HC hk56 HE HD HSf HSl hroom hf' hl' hfaZ HDo HU
          obtain ⟨a2, cap2, e2, -⟩ := HW2.out
          rw [E.out] at e2
          subst e2
          clear HW1 HW2 E
          rcases HCB.out with ⟨h5, h0 | ⟨h0, h1⟩⟩ | ⟨h5, h6, h0 | ⟨h0, h1, h2⟩⟩
          all_goals
            clear HCB
            go_wp2_with fail
            with_reducible refine KRt.out.mono ?_
            rintro e w4 ⟨rfl, hb4⟩
            have Hb4 := Lib.hid hb4
            clear c0 c1 c2 c3 c4
            have HBr4 := Lib.hid (HBr3.out.trans (hb4.mono HBr3.out.size))
            have T3 := Lib.hid ((blocks_any (HA3.out.below hb4 (Nat.le_refl _)) (by have := HSl'.out; omega)).mono fun _ _ h => Lists.wl h)
            clear hb4
            obtain ⟨c0, c1, c2, c3, c4⟩ := HBoxed.out _ HBr4.out
            go_wp2_with fail
            with_reducible refine T3.out.mono ?_
            rintro e w5 ⟨v5, rfl, hw5, hb5⟩
            obtain ⟨a5, cap5, e5, -⟩ := hw5
            rw [E'.out] at e5
            subst e5
            clear c0 c1 c2 c3 c4
            have HBr5 := Lib.hid (HBr4.out.trans (hb5.mono HBr4.out.size))
            clear hb5
            obtain ⟨c0, c1, c2, c3, c4⟩ := HBoxed.out _ HBr5.out
            have BW := Lib.hid (HB.out.trans (HBr5.out.mono HB.out.size))
            go_wp2_with fail
            with_reducible refine (KW.out _ BW.out).mono ?_
            rintro e w9 ⟨rfl, hb9⟩
            go_wp2
            go_ret
            exact ⟨rfl, BW.out.trans (hb9.mono BW.out.size)⟩
        · have h5 : (x.k == 5) = false := by simp; omega
          have h6 : (x.k == 6) = false := by simp; omega
          have HC := Lib.hid (did_cell HD.out HG.out (by omega) (by omega))
          have HSl' : Hid (S'.last ≤ 1000000) := Lib.hid (by have := HSl.out; omega)
          have HE' : Hid (∀ b ∈ S'.L, b.2.length ≤ 2000) := Lib.hid (fun b hb => by have := HC.out.2.2.2.1 20 HE.out b hb; omega)
          have hfq : ¬ (1 : Int) < (S'.faults : Int) := by have := HSf.out; omega
          obtain ⟨m, hm⟩ : ∃ m, m = S.L.length := ⟨_, rfl⟩
          have E' : Hid (((nos S'.L).map fun n : Nat => (n : Int)).length = m) := Lib.hid (by rw [hm, ← HC.out.1]; simp [nos])
          have E : Hid (((nos S.L).map fun n : Nat => (n : Int)).length = m) := Lib.hid (by rw [hm]; simp [nos])
          rw [← hm] at HLn
          have b0 := HLn.out
          obtain ⟨ys', hys'⟩ : ∃ ys', ys' = flat S'.L := ⟨_, rfl⟩
          obtain ⟨ys, hys⟩ : ∃ ys, ys = flat S.L := ⟨_, rfl⟩
          have HQ : Hid ((∀ k, cnt ys' ys k ≤ 1) ∧ ((∀ k, cnt ys' ys k = 0) ∨ (Ac.writes x = true ∧ ((S'.faults : Int) == 0) = true))) := Lib.hid (by
            rw [hys, hys']
            refine ⟨HC.out.2.2.2.2.2.1, HC.out.2.2.2.2.2.2.imp id fun h => ⟨h.1, ?_⟩⟩
            have := HSf.out
            simp; omega)
          obtain ⟨M, hM⟩ : ∃ M, M = ys.length := ⟨_, rfl⟩
          have EM : Hid (ys'.length = M) := Lib.hid (by rw [hM, hys, hys']; exact HC.out.2.1)
          have hMb : M ≤ 65536 := by rw [hM, hys, flat_len]; exact HU.out
          rw [← hys] at HW1
          have HY := Lib.hid hys'
          have HM := Lib.hid hM
          clear hm hk56 HE HD HSf HSl hroom hf' hl' hfaZ HDo HU HC hys hys' hM
          obtain ⟨a2, cap2, e2, -⟩ := HW2.out
          rw [E.out] at e2
          subst e2
          clear HW2 E
          go_wp2_with fail
          with_reducible refine KRt.out.mono ?_
          rintro e w4 ⟨rfl, hb4⟩
          have Hb4 := Lib.hid hb4
          clear c0 c1 c2 c3 c4
          have HBr4 := Lib.hid (HBr3.out.trans (hb4.mono HBr3.out.size))
          have T3 := Lib.hid ((blocks_any (HA3.out.below hb4 (Nat.le_refl _)) (by have := HSl'.out; omega)).mono fun _ _ h => Lists.wl h)
          clear hb4
          obtain ⟨c0, c1, c2, c3, c4⟩ := HBoxed.out _ HBr4.out
          go_wp2_with fail
          with_reducible refine T3.out.mono ?_
          rintro e w5 ⟨v5, rfl, hw5, hb5⟩
          obtain ⟨a5, cap5, e5, -⟩ := hw5
          rw [E'.out] at e5
          subst e5
          clear c0 c1 c2 c3 c4
          have HBr5 := Lib.hid (HBr4.out.trans (hb5.mono HBr4.out.size))
          have Hb5 := Lib.hid (Hb4.out.trans (hb5.mono Hb4.out.size))
          clear hb5
          obtain ⟨c0, c1, c2, c3, c4⟩ := HBoxed.out _ HBr5.out
          have T6 := Lib.hid (words_any (HA3.out.below Hb5.out (Nat.le_refl _)) (by have := HSl'.out; omega) HE'.out)
          go_wp2_with fail
          with_reducible refine T6.out.mono ?_
          rintro e w6 ⟨v6, rfl, hw6, hb6⟩
          rw [← HY.out] at hw6
          have Hb6 := Lib.hid (Hb5.out.trans (hb6.mono Hb5.out.size))
          have HW1 := Lib.hid (HW1.out.below Hb6.out)
          have HW6 := Lib.hid hw6
          clear c0 c1 c2 c3 c4
          have HBr6 := Lib.hid (HBr5.out.trans (hb6.mono HBr5.out.size))
          clear hb6 hw6 HY HE'
          have HC1 : Hid (∀ (wr : World), Below w6.heap.size w6 wr → ∀ k, k < M → ∃ b1 b6, (∃ a c, v1 = .slice a M c ∧ a = some ⟨b1, 0, none⟩) ∧ (∃ a c, v6 = .slice a M c ∧ a = some ⟨b6, 0, none⟩) ∧ wr.drew.cell? ⟨b1, k, none⟩ = some (.int .u64 (ys.getD k 0)) ∧ wr.drew.cell? ⟨b6, k, none⟩ = some (.int .u64 (ys'.getD k 0))) := Lib.hid (fun wr hB k hk => by
            obtain ⟨a1, cap1, e1, H1⟩ := HW1.out
            obtain ⟨a6, cap6, e6, H6⟩ := HW6.out
            have hk1 : k < ys.length := by rw [← HM.out]; exact hk
            have hk6 : k < ys'.length := by rw [EM.out]; exact hk
            obtain ⟨b1, f1, -, l1, g1⟩ := H1 k hk1
            obtain ⟨b6, f6, -, l6, g6⟩ := H6 k hk6
            rw [← HM.out] at e1
            rw [EM.out] at e6
            refine ⟨b1, b6, ⟨a1, cap1, e1, f1⟩, ⟨a6, cap6, e6, f6⟩, ?_, ?_⟩
            · rw [List.getD_eq_getElem?_getD, List.getElem?_eq_getElem hk1]
              exact (hB.drew.cell (p := ⟨b1, k, none⟩) l1).trans g1
            · rw [List.getD_eq_getElem?_getD, List.getElem?_eq_getElem hk6]
              exact (hB.drew.cell (p := ⟨b6, k, none⟩) l6).trans g6)
          obtain ⟨a1, cap1, e1, -⟩ := HW1.out
          rw [← HM.out] at e1
          obtain ⟨a6, cap6, e6, -⟩ := HW6.out
          rw [EM.out] at e6
          subst e1
          subst e6
          clear HW1 HW6 HM EM
          have T7 : Hid (∀ w', Below w6.heap.size w6 w' → Calls Tryd.prog 16 #[.pointer (some ⟨p, 0, none⟩)] w' (Same (.int .i64 (S'.faults : Int)) w')) := Lib.hid (fun w' hb => faults_any ((HA3.out.below Hb6.out (Nat.le_refl _)).below hb (Nat.le_refl _)))
          go_wp2_with fail
          with_reducible refine (T7.out _ (Below.refl _ _)).mono ?_
          rintro e w6' ⟨rfl, rfl⟩
          go_wp2_with fail
          clear hfq h5 h6 hk0B
          go_loopw [12, 13] (fun nvv iv wr => ∃ (k : Nat), k ≤ M ∧ iv = .int .i64 k ∧ nvv = .int .i64 (cnt ys' ys k : Nat) ∧ Below w6.heap.size w6 wr) (fun _ i _ => M - (intOf i).toNat)
          case atStart => exact ⟨0, Nat.zero_le _, rfl, rfl, Below.refl _ _⟩
          case round =>
            obtain ⟨k, hk, rfl, rfl, hB⟩ := hrel
            by_cases hlt : k < M
            · have hltZ : (k : Int) < (M : Int) := by omega
              obtain ⟨b1, b6, ⟨a1', cap1', e1, rfl⟩, ⟨a6', cap6', e6, rfl⟩, g1, g6⟩ := HC1.out wr hB k hlt
              injection e1 with e1 _ ec1
              injection e6 with e6 _ ec6
              subst e1
              subst e6
              subst ec1
              subst ec6
              have hq1 := HQ.out.1 k
              by_cases hy : ys'.getD k 0 = ys.getD k 0
              · have HN : Hid (cnt ys' ys (k + 1) = cnt ys' ys k) := Lib.hid (by show cnt ys' ys k + _ = _; rw [if_pos hy]; rfl)
                have hyB : (ys'.getD k 0 != ys.getD k 0) = false := bne_eq_false_iff_eq.2 hy
                generalize ys'.getD k 0 = y' at g6 hyB
                generalize ys.getD k 0 = y at g1 hyB
                have HBx := Lib.hid hB
                clear hB hy
                go_wp2
                go_region
                all_goals go_wp2
                all_goals go_roundw
                all_goals first | exact ⟨k + 1, by omega, by go_num, by rw [HN.out], HBx.out.drew⟩ | ((repeat apply Exists.intro); exact ⟨⟨k + 1, by omega, by go_num, by rw [HN.out], HBx.out.drew⟩, rfl⟩) | (simp [intOf]; omega)
              · have HN : Hid (cnt ys' ys (k + 1) = cnt ys' ys k + 1) := Lib.hid (by show cnt ys' ys k + _ = _; rw [if_neg hy])
                have hyB : (ys'.getD k 0 != ys.getD k 0) = true := bne_iff_ne.2 hy
                generalize ys'.getD k 0 = y' at g6 hyB
                generalize ys.getD k 0 = y at g1 hyB
                have HBx := Lib.hid hB
                clear hB hy
                go_wp2
                go_region
                all_goals go_wp2
                all_goals go_roundw
                all_goals first | exact ⟨k + 1, by omega, by go_num, by rw [HN.out]; go_num, HBx.out.drew⟩ | ((repeat apply Exists.intro); exact ⟨⟨k + 1, by omega, by go_num, by rw [HN.out]; go_num, HBx.out.drew⟩, rfl⟩) | (simp [intOf]; omega)
            · obtain rfl : k = M := by omega
              have HBr7 := Lib.hid (HBr6.out.trans (hB.mono HBr6.out.size))
              obtain ⟨c0, c1, c2, c3, c4⟩ := HBoxed.out _ HBr7.out
              have BW := Lib.hid (HB.out.trans (HBr7.out.mono HB.out.size))
              have HBx := Lib.hid hB
              obtain ⟨q, hq⟩ : ∃ q, q = cnt ys' ys k := ⟨_, rfl⟩
              have hq1 : q ≤ 1 := by rw [hq]; exact HQ.out.1 k
              have HQ' : Hid (q = 0 ∨ (Ac.writes x = true ∧ ((S'.faults : Int) == 0) = true)) := Lib.hid (by rw [hq]; exact HQ.out.2.imp (fun h => h k) id)
              rw [← hq]
              clear hq HQ hB hlt
              obtain rfl | rfl : q = 0 ∨ q = 1 := by omega
              · clear HQ'
                go_wp2_with fail
                with_reducible refine (KW.out _ BW.out).mono ?_
                rintro e w9 ⟨rfl, hb9⟩
                go_wp2
                go_ret
                exact ⟨rfl, BW.out.trans (hb9.mono BW.out.size)⟩
              · obtain ⟨hwr, hfz⟩ := HQ'.out.resolve_left (by omega)
                have KWt := Lib.hid (KWr.out wr)
                rw [hwr] at KWt
                clear HQ' hwr
                go_wp2_with fail
                with_reducible refine KWt.out.mono ?_
                rintro e w8 ⟨rfl, hb8⟩
                have BW := Lib.hid (BW.out.trans (hb8.mono BW.out.size))
                have HBx := Lib.hid (HBx.out.trans (hb8.mono HBx.out.size))
                clear hb8
                go_wp2_with fail
                with_reducible refine (T7.out _ HBx.out).mono ?_
                rintro e w8' ⟨rfl, rfl⟩
                go_wp2_with fail
                with_reducible refine (KW.out _ BW.out).mono ?_
                rintro e w9 ⟨rfl, hb9⟩
                go_wp2
                go_ret
                exact ⟨rfl, BW.out.trans (hb9.mono BW.out.size)⟩
end Go.Proofs.YthgabbkpjffdnaaDoor
namespace Go.Proofs.YthgabbkpjffdnaaDoor.actOne
open Go.ChangeShapes Go.WideShapes Go.WideMaps Go.WideElems Go.ChangeAt Go.RowKit
open Go.ChangeMaps (open_string shut_string)
open Ac (A)
theorem laidOut : laidOutB Tryd.prog = true := by kernel_rfl
/-- A slice of integers that came in: nil, or a row of its capacity. -/
def IsRow (k : IntKind) (w : World) (a : Option Addr) (len cap : Nat) (zs : List Int) : Prop :=
  (a = none ∧ len = 0 ∧ cap = 0 ∧ zs = []) ∨
  ∃ x, a = some x ∧ len ≤ cap ∧ cap ≤ maxLen ∧ zs.length = cap ∧ (∀ i, i < zs.length → w.cell? (x.add i) = some (.int k (zs.getD i 0))) ∧ ∀ n ∈ zs, (Lit.int k n).wf = true
theorem ints_at {k : IntKind} {w : World} {ad : Addr} {zs : List Int} (h : ∀ i, i < zs.length → w.cell? (ad.add i) = some (.int k (zs.getD i 0))) (hz : 0 < zs.length) :
    ∃ b off, ad = ⟨b, off, none⟩ ∧ ∀ i, i < zs.length → w.cell? ⟨b, off + i, none⟩ = some (.int k (zs.getD i 0)) := by
  obtain ⟨b, off, rfl⟩ := addr_plain (h 0 hz)
  refine ⟨b, off, rfl, fun i hi => ?_⟩
  have := h i hi
  rwa [Addr.add_lit] at this
theorem walk (a : Option Addr) (len cap : Nat) (zs : List Int) (x : A) (w : World) (h : IsRow .u8 w a len cap zs) (hx : Fits x) (hn : Nm w) (hp : Dt.Pow w) : Calls Tryd.prog 5 #[.slice a len cap, av x] w (Gives (.bool true) w) := by
  rcases h with ⟨rfl, rfl, rfl, rfl⟩ | ⟨ad, rfl, hl, hm, hz, hc, hwf⟩
  · exact one_any none 0 0 (fun _ => 0) x w (by omega) (fun _ => by omega) (fun j hj => by omega) hx hn hp
  · have hmax : len ≤ 9223372036854775807 := by unfold maxLen at hm; omega
    by_cases h10 : 10 < len
    · exact one_long _ len cap x w h10 hmax hn hp
    · have hbz : ∀ j, 0 ≤ zs.getD j 0 ∧ zs.getD j 0 ≤ 255 := fun j => by
        rw [List.getD_eq_getElem?_getD]
        cases e : zs[j]? with
        | none => simp
        | some x => exact bounds_u8 (hwf x (List.mem_of_getElem? e))
      refine one_any _ len cap (fun j => (zs.getD j 0).toNat) x w (by omega) (fun j => by have := hbz j; show (zs.getD j 0).toNat < 256; omega) (fun j hj => ?_) hx hn hp
      obtain ⟨b, off, rfl, hc'⟩ := ints_at hc (by omega)
      refine ⟨b, off, rfl, World.block_lt_of_cell? w _ (hc' 0 (by omega)), ?_⟩
      rw [hc' j (by omega), Int.toNat_of_nonneg (hbz j).1]
set_option maxRecDepth 100000 in
/-- What the walk gives, for every argument and every world that holds the tables. -/
theorem contract (H : Type) (enc : TypeId × Value → H) (W : World) (base : Nat) (args : Array Value) (ds gs : List (DataW H)) (before : List MemPlace)
    (hval : ∀ (j : Nat) t v, Tryd.f5.params[j]? = some t → args[j]? = some v → Value.okWide Tryd.prog W .any base t v)
    (hW : DataW.Whole enc Tryd.prog Tryd.f5.params.toList Rows.actOneSpec.vars false W args.toList ds gs before) (hL : laidMetH Tryd.prog Rows.actOneRow.laid W) :
    Calls Tryd.prog 5 args W fun e W' => ∃ v, e = .returned v ∧ Rows.actOneSpec.post enc Tryd.prog Tryd.f5 false true false false W args v W' := by
  have hW' := hW
  obtain ⟨p, q, hA0, hV, rfl, hfz, hnd⟩ := hW
  have hA : DataW.TrodAll enc Tryd.prog W 0 (fun _ => true) true Tryd.f5.params.toList args.toList ds p := hA0
  rw [Tryd.params5] at hA hval
  obtain ⟨v0, vs0, d0, ds0, p0, q0, hargs, rfl, rfl, h0, r0⟩ := trodAll_cons hA
  obtain ⟨v1, vs1, d1, ds1, p1, q1, rfl, rfl, rfl, h1, r1⟩ := trodAll_cons r0
  obtain ⟨rfl, rfl, rfl⟩ := trodAll_nil r1
  obtain rfl : args = #[v0, v1] := by cases args; simp_all
  obtain ⟨rfl, rfl⟩ := trodVars_none hV
  obtain ⟨l_a, l_len, l_cap, rfl⟩ := okWide_slice Tryd.underlying48 (hval 0 48 v0 rfl rfl)
  have k0 := h0
  have lt0 : ∀ x ∈ p0, x.block < W.heap.size := by obtain ⟨m, hm⟩ := k0; exact DataW.trod_lt m _ _ _ hm
  obtain ⟨l_z, l_row⟩ : ∃ zs, IsRow .u8 W l_a l_len l_cap zs := by
    obtain ⟨fuel, hf⟩ := h0
    rcases open_ints Tryd.underlying48 Tryd.underlying5 (by kernel_rfl) hf with ⟨hcs, _⟩ | ⟨x, l, c, zs, hcs, _, hl, hm, hz, _, hcell, hwz⟩
    · simp [Value.cells] at hcs
      obtain ⟨rfl, rfl, rfl⟩ := hcs
      exact ⟨[], .inl ⟨rfl, rfl, rfl, rfl⟩⟩
    · simp [Value.cells] at hcs
      obtain ⟨rfl, rfl, rfl⟩ := hcs
      exact ⟨zs, .inr ⟨_, rfl, hl, hm, by simpa using hz, hcell, hwz⟩⟩
  have k1 := h1
  have lt1 : ∀ x ∈ p1, x.block < W.heap.size := by obtain ⟨m, hm⟩ := k1; exact DataW.trod_lt m _ _ _ hm
  obtain ⟨x, rfl, hx⟩ := open_act (hval 1 26 v1 rfl rfl) h1
  clear hA0
  have hp : Dt.Pow W := pow_of hL
  have hn : Nm W := nm_of hL
  refine (walk l_a l_len l_cap l_z x W l_row hx hn hp).mono fun e W' ⟨he, bel⟩ => ?_
  subst he
  exact ⟨_, rfl, _, _, _, [], _, [], hW', trodAll_mk1 (shut_bool Tryd.underlying4 _), (trodAll_cons_mk (Below.trod laidOut (by kernel_rfl) (of_decide_eq_true (by kernel_rfl)) k0 bel lt0) (trodAll_cons_mk (Below.trod laidOut (by kernel_rfl) (of_decide_eq_true (by kernel_rfl)) k1 bel lt1) trodAll_mk0)), rfl, bel.frame _, fun h => by cases h⟩
theorem laid_met (os : Os) : laidMet Tryd.prog Rows.actOneRow.laid ((laidWorld os).forCall (fun _ _ => 0) ⟨#[], #[.slice none 0 0, .agg #[.int .i64 0, .int .u64 0, .int .i64 0, .int .u64 0, .int .u64 0]], []⟩).memory :=
  laidMet_of_run' 8 (by kernel_rfl) (by kernel_rfl)
theorem reads (os : Os) {H : Type} (enc : TypeId × Value → H) : ∃ places, DataW.whole enc Tryd.prog ((laidWorld os).forCall (fun _ _ => 0) ⟨#[], #[.slice none 0 0, .agg #[.int .i64 0, .int .u64 0, .int .i64 0, .int .u64 0, .int .u64 0]], []⟩).memory Tryd.f5.params.toList Rows.actOneSpec.vars false (#[.slice none 0 0, .agg #[.int .i64 0, .int .u64 0, .int .i64 0, .int .u64 0, .int .u64 0]] : Array Value).toList 8 = some ([.nil, .agg [.lit (.int .i64 0), .lit (.int .u64 0), .lit (.int .i64 0), .lit (.int .u64 0), .lit (.int .u64 0)]], [], places) :=
  ⟨[], by kernel_rfl⟩
set_option maxRecDepth 100000 in
theorem lifted (os : Os) (started : os.Started) (H : Type) (enc : TypeId × Value → H) (F : Stop.Interp) :
    ReturnsInHanded {} Tryd.checked os 5 .any ((OpenSpec.ofChange Rows.actOneSpec).preRow enc Tryd.prog Tryd.f5 Rows.actOneRow.domain false Rows.actOneRow.laid) (((OpenSpec.ofChange Rows.actOneSpec).at F).post enc Tryd.prog Tryd.f5 false true false false) := by
  obtain ⟨places, hx⟩ := reads os enc
  refine returnsInHanded_of_row (C := Tryd.checked) (s := OpenSpec.ofChange Rows.actOneSpec) own started (by kernel_rfl) Tryd.func5
    (witness_row_at (enc := enc) (C := Tryd.checked) false (laidWorld os) #[.slice none 0 0, .agg #[.int .i64 0, .int .u64 0, .int .i64 0, .int .u64 0, .int .u64 0]] rfl (by kernel_rfl) (by kernel_rfl) (by kernel_rfl)
      (OpenSpec.preRow_of_cond 8 hx (by kernel_rfl) (fun k hk => by cases hk) (by kernel_rfl) (laid_met os))) ?_
  intro W base args ds gs before hval hW _ _ _ hL _ _
  exact contract H enc W base args ds gs before hval hW hL
theorem said : Rows.ActOneSaid :=
  OpenClaim.holds_of_cond 5 Tryd.f5 rfl rfl rfl rfl rfl rfl rfl ⟨rfl, rfl, rfl, rfl, rfl⟩ rfl rfl rfl rfl rfl (by kernel_rfl) Tryd.func5 (by kernel_rfl)
    (of_decide_eq_true (by kernel_rfl)) (by unfold Func.isWrapper; first | (rw [if_pos (by decide +kernel)]; kernel_rfl) | (rw [if_neg (by decide +kernel)]; exact ⟨rfl, rfl⟩))
    (fun os started H enc _ F => by rw [OpenClaim.pre_eq_preRow]; exact lifted os started H enc F)
theorem plain (f : FuncId) (fn : Func) (hf : Tryd.pinned.checked.prog.funcNamed "sprocket/sprocketlaw09.ActOne" = some f) (hfn : Tryd.pinned.checked.prog.funcs[f]? = some fn) :
    false = Tryd.pinned.checked.prog.looks [] ∧ ∀ (j : Nat) t, fn.params[j]? = some t → Tryd.pinned.checked.prog.wantsStandIn t = false := by
  obtain rfl : f = 5 := Option.some.inj ((show Tryd.prog.funcNamed "sprocket/sprocketlaw09.ActOne" = some 5 by kernel_rfl).symm.trans hf) |>.symm
  obtain rfl : fn = Tryd.f5 := (Option.some.inj (Tryd.func5.symm.trans hfn)).symm
  refine ⟨by kernel_rfl, fun j t ht => ?_⟩
  rw [Tryd.params5] at ht
  have hm := Array.mem_of_getElem? ht
  have ht' : t = 48 ∨ t = 26 := by simpa using hm
  rcases ht' with rfl | rfl
  · exact (show Tryd.prog.wantsStandIn 48 = false by kernel_rfl)
  · exact (show Tryd.prog.wantsStandIn 26 = false by kernel_rfl)
/-- ████ THE CARD ████ -/
theorem card : Rows.ActOneCardSaid :=
  Claim7.holds_tied_plain_at .later [] _ _ _ _ said (fun _ h => by cases h) (by kernel_rfl) (fun _ h => by cases h) actOne_row_tie rfl ⟨rfl, rfl⟩ (by kernel_rfl) rfl plain (by kernel_rfl)
end Go.Proofs.YthgabbkpjffdnaaDoor.actOne
namespace Go.Proofs.YthgabbkpjffdnaaDoor
theorem actOne_holds : Rows.ActOneCardSaid := actOne.card
end Go.Proofs.YthgabbkpjffdnaaDoor
