/-
  The walk of DriveSame. By an AI agent.
-/
import Derived.Test.YthldjdkjgiebaaaDriveOne
import Derived.Test.YthldjdkjgiebaaaDriveAwake
import Derived.Test.YthldjdkjgiebaaaDriveRef
import Derived.Test.YthldjdkjgiebaaaDriveWords
import Derived.Test.YthldjdkjgiebaaaArenaBlocks
import Derived.Deep.RegionHeld3
set_option linter.unusedSimpArgs false
set_option linter.unusedVariables false
namespace Go.Proofs.Ythldjdkjgiebaaa
open Go.RowKit Go.Maps
open Mm (Mem Blk)
open Ac (A)
set_option maxRecDepth 100000 in
set_option maxHeartbeats 4000000 in
theorem dsame_out (c : Int) (a : Option Addr) (len cap : Nat) (most : Int) (w : World) (hm : len ≤ 9223372036854775807) (h : c < 1 ∨ 2000 < c ∨ 60 < len ∨ most < 0 ∨ 100 < most) :
    Calls Try.prog 5 #[.int .i64 c, .slice a len cap, .int .i64 most] w (Gives (.bool true) w) := by
  have KW : Hid (∀ w', Calls Try.prog 7 #[] w' (Gives (.bool true) w')) := Lib.hid fun w' => awake_any w'
  by_cases h1 : c < 1
  · clear h
    go_enter Try.func5, Try.ntmps5
    go_wp2_with fail
    with_reducible refine (KW.out _).mono ?_
    rintro e w2 ⟨rfl, hb2⟩
    go_wp2
    go_ret
    exact ⟨rfl, hb2⟩
  by_cases h2 : 2000 < c
  · clear h
    go_enter Try.func5, Try.ntmps5
    go_wp2_with fail
    with_reducible refine (KW.out _).mono ?_
    rintro e w2 ⟨rfl, hb2⟩
    go_wp2
    go_ret
    exact ⟨rfl, hb2⟩
  by_cases h3 : (60 : Int) < (len : Int)
  · clear h
    go_enter Try.func5, Try.ntmps5
    go_wp2_with fail
    with_reducible refine (KW.out _).mono ?_
    rintro e w2 ⟨rfl, hb2⟩
    go_wp2
    go_ret
    exact ⟨rfl, hb2⟩
  by_cases h4 : most < 0
  · clear h
    go_enter Try.func5, Try.ntmps5
    go_wp2_with fail
    with_reducible refine (KW.out _).mono ?_
    rintro e w2 ⟨rfl, hb2⟩
    go_wp2
    go_ret
    exact ⟨rfl, hb2⟩
  have h5 : 100 < most := by omega
  clear h
  go_enter Try.func5, Try.ntmps5
  go_wp2_with fail
  with_reducible refine (KW.out _).mono ?_
  rintro e w2 ⟨rfl, hb2⟩
  go_wp2
  go_ret
  exact ⟨rfl, hb2⟩
/-- The world of three routines. -/
abbrev wr3 (w : World) (a : Option Addr) (N cap : Nat) : World := ((w.alloc (ro0 a N cap)).alloc (ro0 a N cap)).alloc (ro0 a N cap)
/-- Three arenas with a routine each, apart from one another. -/
structure Three (B : Nat) (W : World) (a : Option Addr) (N cap : Nat) (p1 p2 p3 q1 q2 q3 : Nat) (S1 S2 S3 : Mem) (g1 g2 g3 : List Int) (F1 H1 F2 H2 F3 H3 : Nat → Prop) : Prop where
  d1 : Du B W p1 S1 q1 a N cap g1 F1 H1
  d2 : Du B W p2 S2 q2 a N cap g2 F2 H2
  d3 : Du B W p3 S3 q3 a N cap g3 F3 H3
  a12 : ∀ k, Or2 F1 H1 k → ¬ Or2 F2 H2 k
  a13 : ∀ k, Or2 F1 H1 k → ¬ Or2 F3 H3 k
  a23 : ∀ k, Or2 F2 H2 k → ¬ Or2 F3 H3 k
section
variable {B : Nat} {W W' : World} {a : Option Addr} {N cap p1 p2 p3 q1 q2 q3 : Nat} {S1 S2 S3 S' : Mem} {g1 g2 g3 g' : List Int} {F1 H1 F2 H2 F3 H3 F' H' : Nat → Prop}
theorem Three.turn (h : Three B W a N cap p1 p2 p3 q1 q2 q3 S1 S2 S3 g1 g2 g3 F1 H1 F2 H2 F3 H3) (hd : Du B W' p1 S' q1 a N cap g' F' H') (ht : Tn (Or2 F1 H1) (Or2 F' H') W W') : Three B W' a N cap p1 p2 p3 q1 q2 q3 S' S2 S3 g' g2 g3 F' H' F2 H2 F3 H3 := by
  obtain ⟨e2, b2⟩ := h.d2.other ht (fun k h2 h1 => h.a12 k h1 h2)
  obtain ⟨e3, b3⟩ := h.d3.other ht (fun k h2 h1 => h.a13 k h1 h2)
  exact ⟨hd, e2, e3, fun k h1 h2 => b2 k h2 h1, fun k h1 h2 => b3 k h2 h1, h.a23⟩
/-- The next one comes first. -/
theorem Three.rot (h : Three B W a N cap p1 p2 p3 q1 q2 q3 S1 S2 S3 g1 g2 g3 F1 H1 F2 H2 F3 H3) : Three B W a N cap p2 p3 p1 q2 q3 q1 S2 S3 S1 g2 g3 g1 F2 H2 F3 H3 F1 H1 :=
  ⟨h.d2, h.d3, h.d1, h.a23, fun k h1 h2 => h.a12 k h2 h1, fun k h1 h2 => h.a13 k h2 h1⟩
theorem Three.below (h : Three B W a N cap p1 p2 p3 q1 q2 q3 S1 S2 S3 g1 g2 g3 F1 H1 F2 H2 F3 H3) (hb : Below W.heap.size W W') : Three B W' a N cap p1 p2 p3 q1 q2 q3 S1 S2 S3 g1 g2 g3 F1 H1 F2 H2 F3 H3 := ⟨h.d1.below hb, h.d2.below hb, h.d3.below hb, h.a12, h.a13, h.a23⟩
end
theorem three_start {w w2 w3 w4 : World} {a : Option Addr} {N cap n p1 p2 p3 : Nat} {F1 F2 F3 : Nat → Prop} (hA1 : Ax (wr3 w a N cap).heap.size w2 p1 (s0 n) F1) (hb2 : Below (wr3 w a N cap).heap.size (wr3 w a N cap) w2) (hA2 : Ax w2.heap.size w3 p2 (s0 n) F2) (hb3 : Below w2.heap.size w2 w3) (hA3 : Ax w3.heap.size w4 p3 (s0 n) F3) (hb4 : Below w3.heap.size w3 w4) :
    Three w.heap.size w4 a N cap p1 p2 p3 w.heap.size (w.heap.size + 1) (w.heap.size + 1 + 1) (s0 n) (s0 n) (s0 n) [] [] [] F1 (Hp w.heap.size none) F2 (Hp (w.heap.size + 1) none) F3 (Hp (w.heap.size + 1 + 1) none) ∧ Below w.heap.size w w4 := by
  have hz : (wr3 w a N cap).heap.size = w.heap.size + 3 := by simp
  have hb1 : Below w.heap.size w (wr3 w a N cap) := (((Below.refl _ w).alloc (Nat.le_refl _) _).alloc (by simp) _).alloc (by simp; omega) _
  have s2 := hb2.size
  have s3 := hb3.size
  have s4 := hb4.size
  have hb24 : Below w2.heap.size w2 w4 := hb3.trans (hb4.mono s3)
  have hb14 : Below (wr3 w a N cap).heap.size (wr3 w a N cap) w4 := hb2.trans (hb24.mono s2)
  have k0 : w4.heap[w.heap.size]? = some (.cells #[.slice a N cap, .slice none 0 0] 29 (0, 0)) := by
    rw [hb14.block _ (by omega), Below.heap_alloc _ _ _ (by simp <;> omega), Below.heap_alloc _ _ _ (by simp <;> omega)]; exact World.alloc_heap_new w _
  have k1 : w4.heap[w.heap.size + 1]? = some (.cells #[.slice a N cap, .slice none 0 0] 29 (0, 0)) := by
    rw [hb14.block _ (by omega), Below.heap_alloc _ _ _ (by simp <;> omega)]; have := World.alloc_heap_new (w.alloc (ro0 a N cap)) (ro0 a N cap); rwa [World.size_alloc] at this
  have k2 : w4.heap[w.heap.size + 1 + 1]? = some (.cells #[.slice a N cap, .slice none 0 0] 29 (0, 0)) := by
    rw [hb14.block _ (by omega)]; have := World.alloc_heap_new ((w.alloc (ro0 a N cap)).alloc (ro0 a N cap)) (ro0 a N cap); rwa [World.size_alloc, World.size_alloc] at this
  have f1 : ∀ k, F1 k → w.heap.size + 3 ≤ k ∧ k < w2.heap.size := fun k e => by have := hA1.foot e; omega
  have f2 : ∀ k, F2 k → w2.heap.size ≤ k ∧ k < w3.heap.size := fun k e => hA2.foot e
  have f3 : ∀ k, F3 k → w3.heap.size ≤ k ∧ k < w4.heap.size := fun k e => hA3.foot e
  refine ⟨⟨⟨(hA1.below hb24 (Nat.le_refl _)).mono (by omega), ro_at (Nat.le_refl _) k0, fun k hk e => by have := hp_none hk; have := f1 k e; omega⟩, ⟨(hA2.below hb4 (Nat.le_refl _)).mono (by omega), ro_at (by omega) k1, fun k hk e => by have := hp_none hk; have := f2 k e; omega⟩, ⟨hA3.mono (by omega), ro_at (by omega) k2, fun k hk e => by have := hp_none hk; have := f3 k e; omega⟩, fun k h h' => ?_, fun k h h' => ?_, fun k h h' => ?_⟩, hb1.trans (hb14.mono (by omega))⟩
  · rcases h with h | h <;> rcases h' with h' | h'
    · have := f1 k h; have := f2 k h'; omega
    · have := f1 k h; have := hp_none h'; omega
    · have := f2 k h'; have := hp_none h; omega
    · have := hp_none h; have := hp_none h'; omega
  · rcases h with h | h <;> rcases h' with h' | h'
    · have := f1 k h; have := f3 k h'; omega
    · have := f1 k h; have := hp_none h'; omega
    · have := f3 k h'; have := hp_none h; omega
    · have := hp_none h; have := hp_none h'; omega
  · rcases h with h | h <;> rcases h' with h' | h'
    · have := f2 k h; have := f3 k h'; omega
    · have := f2 k h; have := hp_none h'; omega
    · have := f3 k h'; have := hp_none h; omega
    · have := hp_none h; have := hp_none h'; omega
/-- Run of one routine that is picked mo times. -/
theorem run_one {B : Nat} {w6 : World} {p q : Nat} {S0 : Mem} {a : Option Addr} {N c : Nat} {F H : Nat → Prop} (h : Du B w6 p S0 q a N c [] F H) (hB : B ≤ w6.heap.size) (xs : Nat → A) (hx : ∀ w1, Below B w6 w1 → ∀ j, j < N → ActAt a w1 j (xs j)) (hS : Mid S0 0) (hfit : ∀ j, j < N → Fits (xs j)) (mo : Nat) (hmo : mo ≤ 1000) (d : Nat) (hd : d = min mo N) :
    Calls Try.prog 11 #[.pointer (some ⟨p, 0, none⟩), .slice (some ⟨w6.heap.size, 0, none⟩) 1 1, .slice (some ⟨w6.heap.size + 1, 0, none⟩) mo mo] ((w6.alloc (.cells #[rv q] 57)).alloc (.cells (da (fun _ => 0) mo) 3)) fun e w7 => ∃ v, e = .returned v ∧ w7.ownsRow B 63 7 v d (rows7 (tl S0 xs d)) ∧ ∃ F' H', Du B w7 p (mm S0 xs d) q a N c (ans S0 xs d) F' H' ∧ Tn (Or2 F H) (Or2 F' H') w6 w7 := by
  have hbb : Below w6.heap.size w6 ((w6.alloc (.cells #[rv q] 57)).alloc (.cells (da (fun _ => 0) mo) 3)) := ((Below.refl _ w6).alloc (Nat.le_refl _) _).alloc (by simp) _
  have hsz : ((w6.alloc (.cells #[rv q] 57)).alloc (.cells (da (fun _ => 0) mo) 3)).heap.size = w6.heap.size + 2 := by simp
  have e0 : ((w6.alloc (.cells #[rv q] 57)).alloc (.cells (da (fun _ => 0) mo) 3)).heap[w6.heap.size]? = some (.cells #[rv q] 57 (0, 0)) := by rw [Below.heap_alloc _ _ _ (by simp)]; exact World.alloc_heap_new w6 _
  have e1 : ((w6.alloc (.cells #[rv q] 57)).alloc (.cells (da (fun _ => 0) mo) 3)).heap[w6.heap.size + 1]? = some (.cells (da (fun _ => 0) mo) 3 (0, 0)) := by have := World.alloc_heap_new (w6.alloc (.cells #[rv q] 57)) (.cells (da (fun _ => 0) mo) 3); rwa [World.size_alloc] at this
  have hms := (h.below hbb).ms
  have hnt : ∀ k, w6.heap.size ≤ k → ¬ Tot 1 F (fun _ => H) k := fun k hk e => by have := (h.foot (tot_one.1 e)).2; omega
  generalize (w6.alloc (.cells #[rv q] 57)).alloc (.cells (da (fun _ => 0) mo) 3) = W at *
  have hB' : B ≤ W.heap.size := by omega
  refine (drun_any hms hB' (Nat.le_refl _) (by omega) (fun _ => xs) (fun w1 hw1 i _ j hj => hx w1 ((hbb.mono hB).trans hw1) j hj) (fun i _ j hj => hfit j hj) hS _ 1 (fun i hi => ?_) _ mo mo hmo (fun _ => 0) (fun i hi => ?_) (fun _ => 0) (fun i hi => ⟨by omega, by simp⟩)).mono ?_
  · obtain rfl : i = 0 := by omega
    exact ⟨_, _, rfl, by omega, hnt _ (by omega), by simp only [World.cell?]; rw [e0]; rfl⟩
  · exact ⟨_, _, rfl, by omega, hnt _ (by omega), by simp only [World.cell?]; rw [e1]; simp [da_get _ hi]⟩
  · rintro e w7 ⟨v, rfl, hr, F', H', hm, ht⟩
    obtain ⟨r1, r2, r3⟩ := rn_one N xs S0 mo
    rw [r3, ← hd, tl_len] at hr
    have hd1 := hm.one
    rw [r1, r2, ← hd] at hd1
    have ht' : Tn (Or2 F H) (Or2 F' (H' 0)) W w7 := ⟨ht.os, ht.tape, ht.output, ht.size, fun k hk hF => ht.block k hk (fun e => hF (tot_one.1 e)), fun k hk => (ht.foot k (tot_zero.2 hk)).imp (fun e => tot_one.1 e) id⟩
    exact ⟨v, rfl, own_mono hr hB', F', H' 0, hd1, (Tn.of_below hbb).trans ht'⟩
set_option maxRecDepth 100000 in
set_option maxHeartbeats 8000000 in
/-- ████ DriveSame. ████ -/
theorem dsame_any (n : Nat) (h1 : 1 ≤ n) (h2 : n ≤ 2000) (a : Option Addr) (N cap mo : Nat) (xs : Nat → A) (w : World) (hN : N ≤ 60) (hmo : mo ≤ 100) (hfit : ∀ j, j < N → Fits (xs j))
    (hc : ∀ w', Below w.heap.size w w' → ∀ j, j < N → ActAt a w' j (xs j)) :
    Calls Try.prog 5 #[.int .i64 (n : Int), .slice a N cap, .int .i64 (mo : Int)] w (Gives (.bool true) w) := by
  have d1 : decide ((n : Int) < 1) = false := by simp; omega
  have d2 : decide ((2000 : Int) < (n : Int)) = false := by simp; omega
  have d3 : decide ((60 : Int) < (N : Int)) = false := by simp; omega
  have d4 : decide ((mo : Int) < 0) = false := by simp
  have d5 : decide ((100 : Int) < (mo : Int)) = false := by simp; omega
  have KW : Hid (∀ w', Calls Try.prog 7 #[] w' (Gives (.bool true) w')) := Lib.hid fun w' => awake_any w'
  have KN : Hid (∀ w', Calls Try.prog 8 #[.int .i64 (n : Int)] w' (Made n w')) := Lib.hid fun w' => made_new n h1 (by omega) w'
  have hS := mid_new h1 (by omega : n ≤ 65536)
  have mk := fun W => make_int mo (by omega) W
  go_enter Try.func5, Try.ntmps5
  go_wp2_with fail
  with_reducible refine (KN.out _).mono ?_
  rintro e w2 ⟨p1, rfl, hp1, F1, hA1, hb2⟩
  go_wp2_with fail
  with_reducible refine (KN.out _).mono ?_
  rintro e w3 ⟨p2, rfl, hp2, F2, hA2, hb3⟩
  go_wp2_with fail
  with_reducible refine (KN.out _).mono ?_
  rintro e w4 ⟨p3, rfl, hp3, F3, hA3, hb4⟩
  go_wp2_with fail
  obtain ⟨hT, hbw⟩ := three_start hA1 hb2 hA2 hb3 hA3 hb4
  clear hA1 hb2 hA2 hb3 hA3 hb4 hp1 hp2 hp3
  have hB4 : w.heap.size ≤ w4.heap.size := hbw.size
  have K5 := Lib.hid (lsteps_any hT.d1 hB4 xs (fun w1 hb => hc w1 (hbw.trans hb)) (mo : Int) hS (by omega) hfit)
  have HT := Lib.hid hT; clear hT
  have HB4 := Lib.hid hbw; clear hbw
  have HC := Lib.hid hc; clear hc
  have HF := Lib.hid hfit; clear hfit
  rw [Int.toNat_natCast] at K5
  obtain ⟨d, hd⟩ : ∃ d, d = min mo N := ⟨_, rfl⟩
  rw [← hd] at K5
  have hdN : d ≤ N := by omega
  have HD := Lib.hid hd; clear hd
  with_reducible refine K5.out.mono ?_
  rintro e w5 ⟨v13, rfl, hr13, hnn, F1', H1', D1, ht1⟩
  obtain ⟨a13, c13, rfl⟩ := row_slice hr13
  have hT5 := HT.out.turn D1 ht1
  have hb5 : Below w.heap.size w4 w5 := ht1.below (fun k hk => (HT.out.d1.foot hk).1) hB4
  have hB5 : w.heap.size ≤ w5.heap.size := Nat.le_trans hB4 hb5.size
  have HB5 := Lib.hid (HB4.out.trans hb5)
  have K6 := Lib.hid (alone_any hT5.d2 hB5 xs (fun w1 hb => HC.out w1 (HB5.out.trans hb)) (mo : Int) hS (by omega) HF.out)
  have HT5 := Lib.hid hT5
  have HR13 := Lib.hid hr13
  clear hT5 hr13 hnn D1 ht1 hb5 K5 HT HB4 hB4
  rw [Int.toNat_natCast, ← HD.out] at K6
  go_wp2_with fail
  with_reducible refine K6.out.mono ?_
  rintro e w6 ⟨rfl, F2', H2', D2, ht2⟩
  have hT6 := HT5.out.rot.turn D2 ht2
  have hb6 : Below w.heap.size w5 w6 := ht2.below (fun k hk => (HT5.out.d2.foot hk).1) hB5
  have hB6 : w.heap.size ≤ w6.heap.size := Nat.le_trans hB5 hb6.size
  have HB6 := Lib.hid (HB5.out.trans hb6)
  have HR13' := Lib.hid ((HT5.out.d2.alien ht2).row HR13.out (fun _ => rfl))
  have HT6 := Lib.hid hT6.rot
  clear hT6 D2 ht2 hb6 K6 HT5 HB5 hB5 HR13
  go_wp2_with fail
  have K7 := Lib.hid (run_one HT6.out.d1 hB6 xs (fun w1 hb => HC.out w1 (HB6.out.trans hb)) hS HF.out mo (by omega) d HD.out)
  with_reducible refine K7.out.mono ?_
  rintro e w7 ⟨v14, rfl, hr14, F3', H3', D3, ht3⟩
  obtain ⟨a14, c14, rfl⟩ := row_slice hr14
  have hT7 := HT6.out.turn D3 ht3
  have hb7 : Below w.heap.size w6 w7 := ht3.below (fun k hk => (HT6.out.d1.foot hk).1) hB6
  have hB7 : w.heap.size ≤ w7.heap.size := Nat.le_trans hB6 hb7.size
  have HB7 := Lib.hid (HB6.out.trans hb7)
  have hr13 := (HT6.out.d1.alien ht3).row HR13'.out (fun _ => rfl)
  have HR13 := Lib.hid hr13
  have HR14 := Lib.hid hr14
  have HT7 := Lib.hid hT7.rot
  clear hT7 D3 ht3 hb7 K7 HT6 HB6 hB6 HR13' hr13 hr14 HC mk
  have hmid := mm_mid hS (by omega) HF.out d hdN
  have hlen : (ans (s0 n) xs d).length ≤ 1000000 := by rw [ans_len]; omega
  obtain ⟨au1, cu1, e1, o1⟩ := HT7.out.d1.ro.c1
  obtain ⟨au2, cu2, e2, o2⟩ := HT7.out.d2.ro.c1
  obtain ⟨au3, cu3, e3, o3⟩ := HT7.out.d3.ro.c1
  have HO1 := Lib.hid (Wl.of_row o1)
  have HO2 := Lib.hid (Wl.of_row o2)
  have HO3 := Lib.hid (Wl.of_row o3)
  rw [ans_len] at e1 e2 e3 HO1 HO2 HO3
  have KS : Hid (∀ w', Below w7.heap.size w7 w' → Calls Try.prog 12 #[.slice a14 d c14, .slice a13 d c13] w' (Gives (.bool true) w')) := Lib.hid (fun w' hb => by
    refine same_any (tl (s0 n) xs d) (by rw [tl_len]; omega) w.heap.size w4.heap.size _ _ w' ?_ ?_
    · have := (KeepsAlien.below hb).row HR14.out (fun _ => rfl)
      rw [tl_len]; exact this
    · have := (KeepsAlien.below hb).row HR13.out (fun _ => rfl)
      rw [tl_len]; exact this)
  have KW12 : Hid (∀ w', Below w7.heap.size w7 w' → Calls Try.prog 13 #[.slice au1 d cu1, .slice au2 d cu2] w' (Gives (.bool true) w')) := Lib.hid (fun w' hb => wl_same (ans (s0 n) xs d) _ _ _ _ w' hlen (HO1.out.below hb) (HO2.out.below hb))
  have KW13 : Hid (∀ w', Below w7.heap.size w7 w' → Calls Try.prog 13 #[.slice au1 d cu1, .slice au3 d cu3] w' (Gives (.bool true) w')) := Lib.hid (fun w' hb => wl_same (ans (s0 n) xs d) _ _ _ _ w' hlen (HO1.out.below hb) (HO3.out.below hb))
  have HCL : Hid (∀ w', Below w7.heap.size w7 w' → w'.cell? ⟨w.heap.size, 1, none⟩ = some (.slice au1 d cu1) ∧ w'.cell? ⟨w.heap.size + 1, 1, none⟩ = some (.slice au2 d cu2) ∧ w'.cell? ⟨w.heap.size + 1 + 1, 1, none⟩ = some (.slice au3 d cu3)) := Lib.hid (fun w' hb => ⟨(hb.cell (p := ⟨w.heap.size, 1, none⟩) (World.block_lt_of_cell? _ _ e1)).trans e1, (hb.cell (p := ⟨w.heap.size + 1, 1, none⟩) (World.block_lt_of_cell? _ _ e2)).trans e2, (hb.cell (p := ⟨w.heap.size + 1 + 1, 1, none⟩) (World.block_lt_of_cell? _ _ e3)).trans e3⟩)
  have hmn : min (mo : Int) (N : Int) = (d : Int) := by have := HD.out; omega
  have hdd : ((d : Int) != (d : Int)) = false := by simp
  have B : Hid (Below w7.heap.size w7 w7.drew) := Lib.hid (Below.refl _ _).drew
  clear o1 o2 o3
  go_wp2_with fail
  go_region_held3 (fun w' => w'.cell? ⟨w.heap.size, 1, none⟩ = some (.slice au1 d cu1) ∧ w'.cell? ⟨w.heap.size + 1, 1, none⟩ = some (.slice au2 d cu2) ∧ w'.cell? ⟨w.heap.size + 1 + 1, 1, none⟩ = some (.slice au3 d cu3))
    (with_reducible exact HCL.out _ B.out)
    (first
      | (go_at_call 12; (with_reducible refine (KS.out _ B.out).mono ?_); rintro e w' ⟨rfl, hb⟩; have B := Lib.hid (B.out.trans (hb.mono B.out.size)); clear hb)
      | (go_at_call 13; (with_reducible refine (KW12.out _ B.out).mono ?_); rintro e w' ⟨rfl, hb⟩; have B := Lib.hid (B.out.trans (hb.mono B.out.size)); clear hb)
      | (go_at_call 13; (with_reducible refine (KW13.out _ B.out).mono ?_); rintro e w' ⟨rfl, hb⟩; have B := Lib.hid (B.out.trans (hb.mono B.out.size)); clear hb)
      | fail)
  clear e1 e2 e3 KS KW12 KW13 HCL HO1 HO2 HO3 HR13 HR14 hmn
  have hlast : (mm (s0 n) xs d).last ≤ 1000000000000 := by have := hmid.last; omega
  have hll : ((nos (mm (s0 n) xs d).L).map (fun n : Nat => (n : Int))).length ≤ 1000000 := by have := nos_len hmid.good; simp; omega
  have U1 : Hid (∀ w', Below w7.heap.size w7 w' → Calls Try.prog 18 #[.pointer (some ⟨p1, 0, none⟩)] w' (Same (.int .i64 (Mm.used (mm (s0 n) xs d).L : Int)) w')) := Lib.hid fun w' hb => used_any (HT7.out.d1.below hb).ar
  have U2 : Hid (∀ w', Below w7.heap.size w7 w' → Calls Try.prog 18 #[.pointer (some ⟨p2, 0, none⟩)] w' (Same (.int .i64 (Mm.used (mm (s0 n) xs d).L : Int)) w')) := Lib.hid fun w' hb => used_any (HT7.out.d2.below hb).ar
  have U3 : Hid (∀ w', Below w7.heap.size w7 w' → Calls Try.prog 18 #[.pointer (some ⟨p3, 0, none⟩)] w' (Same (.int .i64 (Mm.used (mm (s0 n) xs d).L : Int)) w')) := Lib.hid fun w' hb => used_any (HT7.out.d3.below hb).ar
  have B1 : Hid (∀ w', Below w7.heap.size w7 w' → Calls Try.prog 14 #[.pointer (some ⟨p1, 0, none⟩)] w' (Lists (fun ts => ts = nos (mm (s0 n) xs d).L) w')) := Lib.hid fun w' hb => blocks_any (HT7.out.d1.below hb).ar hlast
  have B3 : Hid (∀ w', Below w7.heap.size w7 w' → Calls Try.prog 14 #[.pointer (some ⟨p3, 0, none⟩)] w' (Lists (fun ts => ts = nos (mm (s0 n) xs d).L) w')) := Lib.hid fun w' hb => blocks_any (HT7.out.d3.below hb).ar hlast
  generalize (Mm.used (mm (s0 n) xs d).L : Int) = us at U1 U2 U3
  generalize nos (mm (s0 n) xs d).L = bs at B1 B3 hll
  have huu : (us == us) = true := by simp
  go_wp2_with fail
  with_reducible refine (U1.out _ B.out).mono ?_
  rintro e wx ⟨rfl, rfl⟩
  go_wp2_with fail
  with_reducible refine (U2.out _ B.out).mono ?_
  rintro e wx ⟨rfl, rfl⟩
  go_wp2_with fail
  with_reducible refine (U2.out _ B.out).mono ?_
  rintro e wx ⟨rfl, rfl⟩
  go_wp2_with fail
  with_reducible refine (U3.out _ B.out).mono ?_
  rintro e wx ⟨rfl, rfl⟩
  go_wp2_with fail
  with_reducible refine (B1.out _ B.out).mono ?_
  rintro e w8 ⟨vA, tA, rfl, hAe, hrA, -, hb8⟩
  rw [hAe] at hrA
  clear hAe
  have B8 := Lib.hid (B.out.trans (hb8.mono B.out.size))
  go_wp2_with fail
  with_reducible refine (B3.out _ B8.out).mono ?_
  rintro e w9 ⟨vB, tB, rfl, hBe, hrB, -, hb9⟩
  rw [hBe] at hrB
  clear hBe
  have B9 := Lib.hid (B8.out.trans (hb9.mono B8.out.size))
  rw [us_ws] at hrA hrB
  have hlA : bs.length = (bs.map (fun n : Nat => (n : Int))).length := by simp
  rw [hlA] at hrA hrB
  have KWW := Lib.hid (wl_same _ _ _ vA vB w9 hll ((Wl.of_row hrA).below hb9) (Wl.of_row hrB))
  clear hrA hrB hb8 hb9 hlA
  go_wp2_with fail
  with_reducible refine KWW.out.mono ?_
  rintro e w10 ⟨rfl, hb10⟩
  go_wp2_with fail
  with_reducible refine (KW.out _).mono ?_
  rintro e w11 ⟨rfl, hb11⟩
  have B10 := Lib.hid (B9.out.trans (hb10.mono B9.out.size))
  have B11 := Lib.hid (B10.out.trans (hb11.mono B10.out.size))
  have BF := Lib.hid (HB7.out.trans (B11.out.mono hB7))
  clear hb10 hb11
  go_wp2
  go_ret
  exact ⟨rfl, BF.out⟩
end Go.Proofs.Ythldjdkjgiebaaa
