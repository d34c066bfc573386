/-
  The walk of DriveAlone. By an AI agent.
-/
import Derived.Test.YthldjdkjgiebaaaDriveOne
import Derived.Test.YthldjdkjgiebaaaDriveAwake
import Derived.Test.YthldjdkjgiebaaaDriveNil
import Derived.Test.YthldjdkjgiebaaaDriveRef
set_option linter.unusedSimpArgs false
set_option linter.unusedVariables false
namespace Go.Proofs.Ythldjdkjgiebaaa
open Go.RowKit Go.Maps
open Mm (Mem Blk)
open Ac (A)
set_option maxRecDepth 100000 in
set_option maxHeartbeats 4000000 in
theorem dalone_out (c : Int) (a : Option Addr) (len cap : Nat) (most : Int) (w : World) (hm : len ≤ 9223372036854775807) (h : c < 1 ∨ 2000 < c ∨ 60 < len) :
    Calls Try.prog 3 #[.int .i64 c, .slice a len cap, .int .i64 most] w (Gives (.bool true) w) := by
  have KW : Hid (∀ w', Calls Try.prog 7 #[] w' (Gives (.bool true) w')) := Lib.hid fun w' => awake_any w'
  have KA : Hid (∀ w', Calls Try.prog 6 #[.pointer none, .nilIface, .int .i64 5] w' (Gives (.tuple #[.int .i64 0, .bool true]) w')) := Lib.hid fun w' => alone_nil w'
  by_cases h1 : c < 1
  · clear h
    go_enter Try.func3, Try.ntmps3
    go_wp2_with fail
    with_reducible refine (KA.out _).mono ?_
    rintro e w2 ⟨rfl, hb2⟩
    go_wp2_with fail
    with_reducible refine (KW.out _).mono ?_
    rintro e w3 ⟨rfl, hb3⟩
    go_wp2
    go_ret
    exact ⟨rfl, hb2.trans (hb3.mono hb2.size)⟩
  by_cases h2 : 2000 < c
  · clear h
    go_enter Try.func3, Try.ntmps3
    go_wp2_with fail
    with_reducible refine (KA.out _).mono ?_
    rintro e w2 ⟨rfl, hb2⟩
    go_wp2_with fail
    with_reducible refine (KW.out _).mono ?_
    rintro e w3 ⟨rfl, hb3⟩
    go_wp2
    go_ret
    exact ⟨rfl, hb2.trans (hb3.mono hb2.size)⟩
  have h3 : (60 : Int) < (len : Int) := by omega
  clear h
  go_enter Try.func3, Try.ntmps3
  go_wp2_with fail
  with_reducible refine (KA.out _).mono ?_
  rintro e w2 ⟨rfl, hb2⟩
  go_wp2_with fail
  with_reducible refine (KW.out _).mono ?_
  rintro e w3 ⟨rfl, hb3⟩
  go_wp2
  go_ret
  exact ⟨rfl, hb2.trans (hb3.mono hb2.size)⟩
/-- The world of the document's Run of one list. -/
abbrev wz (w3 : World) (n : Nat) (a : Option Addr) (N cap d : Nat) : World := ((w3.alloc (.cells #[.int .i64 (n : Int), .int .i64 0, .int .u64 0, .slice none 0 0] 38)).alloc (.cells #[.slice a N cap] 22)).alloc (.cells (da (fun _ => 0) d) 3)
theorem rrun_one {w3 : World} (n : Nat) (h1 : 1 ≤ n) (h2 : n ≤ 65536) (a : Option Addr) (N cap d : Nat) (hd : d ≤ N) (hd2 : d ≤ 1000) (xs : Nat → A) (hx : ∀ w1, Below w3.heap.size w3 w1 → ∀ j, j < N → ActAt a w1 j (xs j)) (hfit : ∀ j, j < N → Fits (xs j)) :
    Calls Try.prog 9 #[.pointer (some ⟨w3.heap.size, 0, none⟩), .slice (some ⟨w3.heap.size + 1, 0, none⟩) 1 1, .slice (some ⟨w3.heap.size + 1 + 1, 0, none⟩) d d] (wz w3 n a N cap d) fun e w7 => ∃ v, e = .returned v ∧ w7.ownsRow w3.heap.size 44 7 v d (rows7 (tl (s0 n) xs d)) ∧ Below w3.heap.size w3 w7 := by
  obtain ⟨G, hR, hG⟩ := rx_new n h1 h2 w3 (Nat.le_refl w3.heap.size)
  have hbb : Below w3.heap.size w3 (wz w3 n a N cap d) := (((Below.refl _ w3).alloc (Nat.le_refl _) _).alloc (by simp) _).alloc (by simp; omega) _
  have hsz : (wz w3 n a N cap d).heap.size = w3.heap.size + 3 := by simp
  have hb' : Below (w3.heap.size + 1) (w3.alloc (.cells #[.int .i64 (n : Int), .int .i64 0, .int .u64 0, .slice none 0 0] 38)) (wz w3 n a N cap d) := by
    have := ((Below.refl _ (w3.alloc (.cells #[.int .i64 (n : Int), .int .i64 0, .int .u64 0, .slice none 0 0] 38))).alloc (Nat.le_refl _) (.cells #[.slice a N cap] 22)).alloc (by simp) (.cells (da (fun _ => 0) d) 3)
    simpa using this
  have hR' : Rx w3.heap.size (wz w3 n a N cap d) w3.heap.size (s0 n) G := hR.below hb' (by simp)
  have e1 : (wz w3 n a N cap d).heap[w3.heap.size + 1]? = some (.cells #[.slice a N cap] 22 (0, 0)) := by rw [Below.heap_alloc _ _ _ (by simp)]; have := World.alloc_heap_new (w3.alloc (.cells #[.int .i64 (n : Int), .int .i64 0, .int .u64 0, .slice none 0 0] 38)) (.cells #[.slice a N cap] 22); rwa [World.size_alloc] at this
  have e2 : (wz w3 n a N cap d).heap[w3.heap.size + 1 + 1]? = some (.cells (da (fun _ => 0) d) 3 (0, 0)) := by have := World.alloc_heap_new ((w3.alloc (.cells #[.int .i64 (n : Int), .int .i64 0, .int .u64 0, .slice none 0 0] 38)).alloc (.cells #[.slice a N cap] 22)) (.cells (da (fun _ => 0) d) 3); rwa [World.size_alloc, World.size_alloc] at this
  generalize wz w3 n a N cap d = W at *
  refine (rrun_any (a := fun _ => a) (N := fun _ => N) (c := fun _ => cap) hR' (by omega) (Nat.le_refl _) (by omega) (fun _ => xs) (fun w1 hw1 i _ j hj => hx w1 (hbb.trans hw1) j hj) (fun i _ j hj => hfit j hj) (mid_new h1 h2) _ 1 (fun i hi => ?_) _ d d hd2 (fun _ => 0) (fun i hi => ?_) (fun _ => 0) (fun i hi => ⟨by omega, by simp⟩)).mono ?_
  · obtain rfl : i = 0 := by omega
    exact ⟨_, _, rfl, by omega, fun e => by have := hG _ e; omega, by simp only [World.cell?]; rw [e1]; rfl⟩
  · exact ⟨_, _, rfl, by omega, fun e => by have := hG _ e; omega, by simp only [World.cell?]; rw [e2]; simp [da_get _ hi]⟩
  · rintro e w7 ⟨v, rfl, hr, G', hR7, ht⟩
    obtain ⟨r1, r2, r3⟩ := rn_one N xs (s0 n) d
    rw [r3, show min d N = d by omega, tl_len] at hr
    exact ⟨v, rfl, own_mono hr (by omega), hbb.trans (ht.below (fun k hk => by have := hG k hk; omega) (by omega))⟩
set_option maxRecDepth 100000 in
set_option maxHeartbeats 8000000 in
/-- ████ DriveAlone. ████ -/
theorem dalone_any (n : Nat) (h1 : 1 ≤ n) (h2 : n ≤ 2000) (a : Option Addr) (N cap : Nat) (most : Int) (xs : Nat → A) (w : World) (hN : N ≤ 60) (hfit : ∀ j, j < N → Fits (xs j))
    (hc : ∀ w', Below w.heap.size w w' → ∀ j, j < N → ActAt a w' j (xs j)) :
    Calls Try.prog 3 #[.int .i64 (n : Int), .slice a N cap, .int .i64 most] w (Gives (.bool true) w) := by
  have d1 : decide ((n : Int) < 1) = false := by simp; omega
  have d2 : decide ((2000 : Int) < (n : Int)) = false := by simp; omega
  have d3 : decide ((60 : Int) < (N : Int)) = false := by simp; omega
  have KW : Hid (∀ w', Calls Try.prog 7 #[] w' (Gives (.bool true) w')) := Lib.hid fun w' => awake_any w'
  have KN : Hid (∀ w', Calls Try.prog 8 #[.int .i64 (n : Int)] w' (Made n w')) := Lib.hid fun w' => made_new n h1 (by omega) w'
  have hS := mid_new h1 (by omega : n ≤ 65536)
  go_enter Try.func3, Try.ntmps3
  go_wp2_with fail
  with_reducible refine (KN.out _).mono ?_
  rintro e w2 ⟨p, rfl, hp, F, hA, hb2⟩
  simp only [World.size_alloc] at hA hb2 hp
  have hb1 : Below w.heap.size w (w.alloc (ro0 a N cap)) := (Below.refl _ w).alloc (Nat.le_refl _) _
  have s2 := hb2.size
  have hbw2 : Below w.heap.size w w2 := hb1.trans (hb2.mono (by omega))
  have k0 : w2.heap[w.heap.size]? = some (.cells #[.slice a N cap, .slice none 0 0] 29 (0, 0)) := (hb2.block _ (by omega)).trans (World.alloc_heap_new w _)
  have hdu : Du w.heap.size w2 p (s0 n) w.heap.size a N cap [] F (Hp w.heap.size none) := ⟨hA.mono (by omega), ro_at (Nat.le_refl _) k0, fun k hk e => by have := hp_none hk; have := (hA.foot e).1; omega⟩
  have hB2 : w.heap.size ≤ w2.heap.size := hbw2.size
  have K3 := Lib.hid (alone_any hdu hB2 xs (fun w1 hb => hc w1 (hbw2.trans hb)) most hS (by omega) hfit)
  have HDU := Lib.hid hdu; clear hdu
  have HB2 := Lib.hid hbw2
  clear hA hb2 hb1 hp k0 s2 hbw2
  obtain ⟨d, hd⟩ : ∃ d, d = min most.toNat N := ⟨_, rfl⟩
  rw [← hd] at K3
  obtain ⟨bt, hbt⟩ : ∃ bt, bt = decide (N ≤ d) := ⟨_, rfl⟩
  have hdN : d ≤ N := by omega
  have hbt2 : ((d : Int) == (N : Int)) = bt := by rw [hbt, Bool.eq_iff_iff]; simp; omega
  unfold Alones at K3
  rw [← hbt] at K3
  have HD := Lib.hid hd; clear hd hbt
  go_wp2_with fail
  with_reducible refine K3.out.mono ?_
  rintro e w3 ⟨rfl, F', H', hd3, ht3⟩
  have hb3 : Below w.heap.size w2 w3 := ht3.below (fun k hk => (HDU.out.foot hk).1) hB2
  have HB3 := Lib.hid (HB2.out.trans hb3)
  have HD3 := Lib.hid hd3
  have hB3 : w.heap.size ≤ w3.heap.size := HB3.out.size
  clear hd3 ht3 hb3 K3 HDU HB2 hB2
  obtain ⟨m0, hm0⟩ : ∃ m0 : Int, (if most < 0 then 0 else most) = m0 := ⟨_, rfl⟩
  have hmn : (if (N : Int) < m0 then (N : Int) else m0) = (d : Int) := by have := HD.out; split at hm0 <;> split <;> omega
  have mk := fun W => make_int d (by omega) W
  go_wp2_with fail
  have K4 := Lib.hid (rrun_one (w3 := w3) n h1 (by omega) a N cap d hdN (by omega) xs (fun w1 hb => hc w1 (HB3.out.trans (hb.mono hB3))) hfit)
  with_reducible refine K4.out.mono ?_
  rintro e w7 ⟨v14, rfl, hr14, hb7⟩
  obtain ⟨a14, c14, rfl⟩ := row_slice hr14
  obtain ⟨au, cu, e1, o1⟩ := (HD3.out.below hb7).ro.c1
  rw [ans_len] at e1 o1
  have hW1 := Wl.of_row (ys := ans (s0 n) xs d) (by rw [ans_len]; exact o1)
  have HC : Hid (∀ wr, Below w7.heap.size w7 wr → wr.cell? ⟨w.heap.size, 1, none⟩ = some (.slice au d cu) ∧ ∀ k, k < d → ∃ b g y, au = some ⟨b, 0, none⟩ ∧ a14 = some ⟨g, 0, none⟩ ∧ wr.cell? ⟨b, k, none⟩ = some (.int .u64 y) ∧ wr.cell? ⟨g, k * 7 + 6, none⟩ = some (.int .u64 y)) := Lib.hid (by
    intro wr hb
    refine ⟨(hb.cell (p := ⟨w.heap.size, 1, none⟩) (World.block_lt_of_cell? _ _ e1)).trans e1, fun k hk => ?_⟩
    obtain ⟨x, cx, ex, hx⟩ := hW1
    rw [ans_len] at ex
    injection ex with ex
    subst ex
    obtain ⟨b, eb, -, hbl, hbc⟩ := hx k (by rw [ans_len]; exact hk)
    obtain ⟨g, cg, eg, hgl, -, -, -, -, -, -, hgc⟩ := row_seven (ts := tl (s0 n) xs d) (by rw [tl_len]; exact hr14) (i := k) (by rw [tl_len]; exact hk)
    injection eg with eg
    refine ⟨b, g, an (s0 n) xs k, eb, eg, (hb.cell (p := ⟨b, k, none⟩) hbl).trans ?_, (hb.cell (p := ⟨g, k * 7 + 6, none⟩) hgl).trans ?_⟩
    · rw [hbc]; simp [ans]
    · rw [hgc]; simp [tl])
  have HB7 := Lib.hid (HB3.out.trans (hb7.mono hB3))
  have hB7 : w.heap.size ≤ w7.heap.size := HB7.out.size
  have hdd : ((d : Int) != (d : Int)) = false := by simp
  have hbb : (bt != bt) = false := by simp
  have hd60 : d ≤ 60 := by omega
  clear hW1 o1 hr14 hb7 K4 HD3 HB3 hB3 mk hmn hm0
  go_wp2
  clear e1
  go_loopw [15] (fun i wr => ∃ k : Nat, k ≤ d ∧ i = .int .i64 k ∧ Below w7.heap.size w7 wr) (fun i _ => d - (intOf i).toNat)
  case atStart => exact ⟨0, by omega, rfl, Below.refl _ _⟩
  case round =>
    obtain ⟨k, hk, rfl, hB⟩ := hrel
    by_cases hlt : k < d
    · obtain ⟨g0, hall⟩ := HC.out wr hB
      obtain ⟨b, g, y, rfl, rfl, g1, g2⟩ := hall k hlt
      have e2 : (y != y) = false := by simp
      have hltZ : (k : Int) < (d : Int) := by omega
      have HB := Lib.hid hB; clear hB hall
      go_wp2
      go_region
      all_goals go_wp2
      all_goals go_roundw
      all_goals first | exact ⟨k + 1, by omega, by go_num, HB.out.drew⟩ | (simp [intOf]; omega)
    · obtain rfl : k = d := by omega
      go_wp2_with fail
      with_reducible refine (KW.out _).mono ?_
      rintro e w9 ⟨rfl, hb9⟩
      have BF := Lib.hid (HB7.out.trans ((hB.trans (hb9.mono hB.size)).mono hB7))
      clear hb9 hB
      go_wp2
      go_ret
      exact ⟨rfl, BF.out⟩
end Go.Proofs.Ythldjdkjgiebaaa
