/-
  Several texts in one: The walk of a seek's New; Courses that are reckoned: a seek alone on a memory, act by act. By an AI agent.
-/
import Derived.Test.YtknefjigdlbacaaGreatDoorSkGBA
import Derived.Test.YtknefjigdlbacaaGreatDoorSkGAP
import Derived.Test.YtknefjigdlbacaaGreatDoorSkGBM
set_option linter.unusedSimpArgs false
set_option linter.unusedVariables false
namespace Go.Proofs.YtknefjigdlbacaaGreatDoor
open Go.RowKit Go.Maps
open Ac (A)
/-- The seek of these. -/
def seekOf (d th : Nat) (nn kp : Int) (sd b : Nat) (lg : Int) (key : ByteArray) (lay : Nat) : Sk.C := ⟨d, th, nn, kp, sd, b, lg, key.data.toList, Mx.hsh sd key.data.toList, lay⟩
def Sk.C0 : Sk.C := ⟨0, 0, 0, 0, 0, 0, 0, [], 0, 0⟩
/-- A seek without acts. -/
def Knone (w : World) (e : Ending) (w' : World) : Prop := ∃ q, e = .returned (.pointer (some ⟨q, 0, none⟩)) ∧ w.heap.size ≤ q ∧ Kb w' q Sk.C0 (Sk.zero false) (.pointer none) (.pointer none) (.pointer none) ∧ Below w.heap.size w w'
/-- A seek that begins. -/
def Knew (c : Sk.C) (chk : Bool) (w : World) (e : Ending) (w' : World) : Prop := ∃ q, e = .returned (.pointer (some ⟨q, 0, none⟩)) ∧ w.heap.size ≤ q ∧ Kb w' q c (Sk.start c chk) (.pointer none) (.pointer none) (.pointer none) ∧ Below w.heap.size w w'
/-- The boxes of the arguments. -/
abbrev nb (w : World) (d t nn kp sd b lg : Int) : World := (w.alloc (.cells #[.int .u64 d, .int .i64 t, .int .i64 nn, .int .i64 kp, .int .u64 sd] 26)).alloc (.cells #[.int .u64 b, .int .i64 lg] 24)
theorem nb_below (w : World) (d t nn kp sd b lg : Int) : Below w.heap.size w (nb w d t nn kp sd b lg) := ((Below.refl _ _).alloc (Nat.le_refl _) _).alloc (by rw [World.size_alloc]; omega) _
theorem nb_site {w W : World} {d t nn kp sd b lg : Int} (h : Below (nb w d t nn kp sd b lg).heap.size (nb w d t nn kp sd b lg) W) : W.heap[w.heap.size]? = some (.cells #[.int .u64 d, .int .i64 t, .int .i64 nn, .int .i64 kp, .int .u64 sd] 26 (0, 0)) := by
  have h1 := heap_alloc_new w (.cells #[.int .u64 d, .int .i64 t, .int .i64 nn, .int .i64 kp, .int .u64 sd] 26)
  have h2 := ((Below.refl _ (w.alloc (.cells #[.int .u64 d, .int .i64 t, .int .i64 nn, .int .i64 kp, .int .u64 sd] 26))).alloc (Nat.le_refl _) (.cells #[.int .u64 b, .int .i64 lg] 24)).block w.heap.size (by rw [World.size_alloc]; omega)
  exact (h.block w.heap.size (by rw [World.size_alloc, World.size_alloc]; omega)).trans (h2.trans h1)
theorem nb_table {w W : World} {d t nn kp sd b lg : Int} (h : Below (nb w d t nn kp sd b lg).heap.size (nb w d t nn kp sd b lg) W) : W.heap[w.heap.size + 1]? = some (.cells #[.int .u64 b, .int .i64 lg] 24 (0, 0)) := by
  have h1 := heap_alloc_new (w.alloc (.cells #[.int .u64 d, .int .i64 t, .int .i64 nn, .int .i64 kp, .int .u64 sd] 26)) (.cells #[.int .u64 b, .int .i64 lg] 24)
  rw [World.size_alloc] at h1
  exact (h.block (w.heap.size + 1) (by rw [World.size_alloc, World.size_alloc]; omega)).trans h1
set_option maxRecDepth 100000 in
set_option maxHeartbeats 2000000 in
theorem knew_no1 {w : World} (d : Nat) (t nn kp : Int) (sd b : Nat) (lg : Int) (key : ByteArray) (lay : Nat) (chk : Bool) (hbd : Bd w) (hr : Dk.right (d : Int) t nn kp = false) : Calls Tryz.prog 7 #[.agg #[.int .u64 (d : Int), .int .i64 t, .int .i64 nn, .int .i64 kp, .int .u64 (sd : Int)], .agg #[.int .u64 (b : Int), .int .i64 lg], .string key, .int .u64 (lay : Int), .bool chk] w (Knone w) := by
  have HB0 := Lib.hid (nb_below w (d : Int) t nn kp (sd : Int) (b : Int) lg)
  have K1 : Hid (Calls Tryz.prog 19 #[.agg #[.int .u64 (d : Int), .int .i64 t, .int .i64 nn, .int .i64 kp, .int .u64 (sd : Int)]] (nb w (d : Int) t nn kp (sd : Int) (b : Int) lg) (Gives (.bool false) (nb w (d : Int) t nn kp (sd : Int) (b : Int) lg))) := Lib.hid (by
    have := dright_any (d : Int) t nn kp (sd : Int) (nb w (d : Int) t nn kp (sd : Int) (b : Int) lg) (hbd.below HB0.out)
    rwa [hr] at this)
  have K2 : Hid (∀ W, Calls Tryz.prog 20 #[.agg #[.int .u64 (b : Int), .int .i64 lg]] W (Gives (.bool (Tb.right (b : Int) (Tb.grp lg))) W)) := Lib.hid (fun W => by
    have := tright_any (b : Int) lg W
    exact this)
  have HS : Hid (∀ W, Below (nb w (d : Int) t nn kp (sd : Int) (b : Int) lg).heap.size (nb w (d : Int) t nn kp (sd : Int) (b : Int) lg) W → (W.cell? ⟨w.heap.size, 0, none⟩ = some (.int .u64 (d : Int)) ∧ W.cell? ⟨w.heap.size, 1, none⟩ = some (.int .i64 t) ∧ W.cell? ⟨w.heap.size, 2, none⟩ = some (.int .i64 nn) ∧ W.cell? ⟨w.heap.size, 3, none⟩ = some (.int .i64 kp) ∧ W.cell? ⟨w.heap.size, 4, none⟩ = some (.int .u64 (sd : Int))) ∧ W.cell? ⟨w.heap.size + 1, 0, none⟩ = some (.int .u64 (b : Int)) ∧ W.cell? ⟨w.heap.size + 1, 1, none⟩ = some (.int .i64 lg)) := Lib.hid (fun W hb => by
    have h1 := nb_site hb
    have h2 := nb_table hb
    refine ⟨⟨?_, ?_, ?_, ?_, ?_⟩, ?_, ?_⟩ <;> simp [World.cell?, h1, h2])
  obtain ⟨⟨d0, d1, d2, d3, d4⟩, d5, d6⟩ := HS.out _ (Below.refl _ _)
  clear hr hbd K2
  go_enter Tryz.func7, Tryz.ntmps7
  go_wp2_with fail
  with_reducible refine K1.out.mono ?_
  rintro e w1 ⟨rfl, hb1⟩
  have HB1 := Lib.hid (HB0.out.trans (hb1.mono HB0.out.size))
  clear hb1 d0 d1 d2 d3 d4 d5 d6 K1
  go_wp2
  go_ret
  exact ⟨w1.heap.size, rfl, HB1.out.size, heap_alloc_new w1 _, HB1.out.trans (((Below.refl _ w1).alloc (Nat.le_refl _) _).mono HB1.out.size)⟩
set_option maxRecDepth 100000 in
set_option maxHeartbeats 2000000 in
theorem knew_no2 {w : World} (d : Nat) (t nn kp : Int) (sd b : Nat) (lg : Int) (key : ByteArray) (lay : Nat) (chk : Bool) (hbd : Bd w) (hr : Dk.right (d : Int) t nn kp = true) (ht : Tb.right (b : Int) (Tb.grp lg) = false) : Calls Tryz.prog 7 #[.agg #[.int .u64 (d : Int), .int .i64 t, .int .i64 nn, .int .i64 kp, .int .u64 (sd : Int)], .agg #[.int .u64 (b : Int), .int .i64 lg], .string key, .int .u64 (lay : Int), .bool chk] w (Knone w) := by
  have HB0 := Lib.hid (nb_below w (d : Int) t nn kp (sd : Int) (b : Int) lg)
  have K1 : Hid (Calls Tryz.prog 19 #[.agg #[.int .u64 (d : Int), .int .i64 t, .int .i64 nn, .int .i64 kp, .int .u64 (sd : Int)]] (nb w (d : Int) t nn kp (sd : Int) (b : Int) lg) (Gives (.bool true) (nb w (d : Int) t nn kp (sd : Int) (b : Int) lg))) := Lib.hid (by
    have := dright_any (d : Int) t nn kp (sd : Int) (nb w (d : Int) t nn kp (sd : Int) (b : Int) lg) (hbd.below HB0.out)
    rwa [hr] at this)
  have K2 : Hid (∀ W, Calls Tryz.prog 20 #[.agg #[.int .u64 (b : Int), .int .i64 lg]] W (Gives (.bool false) W)) := Lib.hid (fun W => by
    have := tright_any (b : Int) lg W
    rwa [ht] at this)
  have HS : Hid (∀ W, Below (nb w (d : Int) t nn kp (sd : Int) (b : Int) lg).heap.size (nb w (d : Int) t nn kp (sd : Int) (b : Int) lg) W → (W.cell? ⟨w.heap.size, 0, none⟩ = some (.int .u64 (d : Int)) ∧ W.cell? ⟨w.heap.size, 1, none⟩ = some (.int .i64 t) ∧ W.cell? ⟨w.heap.size, 2, none⟩ = some (.int .i64 nn) ∧ W.cell? ⟨w.heap.size, 3, none⟩ = some (.int .i64 kp) ∧ W.cell? ⟨w.heap.size, 4, none⟩ = some (.int .u64 (sd : Int))) ∧ W.cell? ⟨w.heap.size + 1, 0, none⟩ = some (.int .u64 (b : Int)) ∧ W.cell? ⟨w.heap.size + 1, 1, none⟩ = some (.int .i64 lg)) := Lib.hid (fun W hb => by
    have h1 := nb_site hb
    have h2 := nb_table hb
    refine ⟨⟨?_, ?_, ?_, ?_, ?_⟩, ?_, ?_⟩ <;> simp [World.cell?, h1, h2])
  obtain ⟨⟨d0, d1, d2, d3, d4⟩, -⟩ := HS.out _ (Below.refl _ _)
  clear hr ht hbd
  go_enter Tryz.func7, Tryz.ntmps7
  go_wp2_with fail
  with_reducible refine K1.out.mono ?_
  rintro e w0 ⟨rfl, hb1⟩
  have HW1 := Lib.hid hb1
  obtain ⟨-, d5, d6⟩ := HS.out _ hb1
  have HB01 := Lib.hid (HB0.out.trans (hb1.mono HB0.out.size))
  clear hb1 d0 d1 d2 d3 d4 K1
  go_wp2_with fail
  with_reducible refine (K2.out _).mono ?_
  rintro e w1 ⟨rfl, hb2⟩
  have HB1 := Lib.hid (HB01.out.trans (hb2.mono HB01.out.size))
  clear hb2 d5 d6
  go_wp2
  go_ret
  exact ⟨w1.heap.size, rfl, HB1.out.size, heap_alloc_new w1 _, HB1.out.trans (((Below.refl _ w1).alloc (Nat.le_refl _) _).mono HB1.out.size)⟩
set_option maxRecDepth 100000 in
set_option maxHeartbeats 2000000 in
theorem knew_no3 {w : World} (d : Nat) (t nn kp : Int) (sd b : Nat) (lg : Int) (key : ByteArray) (lay : Nat) (chk : Bool) (hbd : Bd w) (hr : Dk.right (d : Int) t nn kp = true) (ht : Tb.right (b : Int) (Tb.grp lg) = true) (hk : 16 < key.size) (hk2 : key.size ≤ 1000000) : Calls Tryz.prog 7 #[.agg #[.int .u64 (d : Int), .int .i64 t, .int .i64 nn, .int .i64 kp, .int .u64 (sd : Int)], .agg #[.int .u64 (b : Int), .int .i64 lg], .string key, .int .u64 (lay : Int), .bool chk] w (Knone w) := by
  have HB0 := Lib.hid (nb_below w (d : Int) t nn kp (sd : Int) (b : Int) lg)
  have K1 : Hid (Calls Tryz.prog 19 #[.agg #[.int .u64 (d : Int), .int .i64 t, .int .i64 nn, .int .i64 kp, .int .u64 (sd : Int)]] (nb w (d : Int) t nn kp (sd : Int) (b : Int) lg) (Gives (.bool true) (nb w (d : Int) t nn kp (sd : Int) (b : Int) lg))) := Lib.hid (by
    have := dright_any (d : Int) t nn kp (sd : Int) (nb w (d : Int) t nn kp (sd : Int) (b : Int) lg) (hbd.below HB0.out)
    rwa [hr] at this)
  have K2 : Hid (∀ W, Calls Tryz.prog 20 #[.agg #[.int .u64 (b : Int), .int .i64 lg]] W (Gives (.bool true) W)) := Lib.hid (fun W => by
    have := tright_any (b : Int) lg W
    rwa [ht] at this)
  have HS : Hid (∀ W, Below (nb w (d : Int) t nn kp (sd : Int) (b : Int) lg).heap.size (nb w (d : Int) t nn kp (sd : Int) (b : Int) lg) W → (W.cell? ⟨w.heap.size, 0, none⟩ = some (.int .u64 (d : Int)) ∧ W.cell? ⟨w.heap.size, 1, none⟩ = some (.int .i64 t) ∧ W.cell? ⟨w.heap.size, 2, none⟩ = some (.int .i64 nn) ∧ W.cell? ⟨w.heap.size, 3, none⟩ = some (.int .i64 kp) ∧ W.cell? ⟨w.heap.size, 4, none⟩ = some (.int .u64 (sd : Int))) ∧ W.cell? ⟨w.heap.size + 1, 0, none⟩ = some (.int .u64 (b : Int)) ∧ W.cell? ⟨w.heap.size + 1, 1, none⟩ = some (.int .i64 lg)) := Lib.hid (fun W hb => by
    have h1 := nb_site hb
    have h2 := nb_table hb
    refine ⟨⟨?_, ?_, ?_, ?_, ?_⟩, ?_, ?_⟩ <;> simp [World.cell?, h1, h2])
  obtain ⟨⟨d0, d1, d2, d3, d4⟩, -⟩ := HS.out _ (Below.refl _ _)
  have e1 : (16 : Int) < (key.size : Int) := by omega
  clear hr ht hbd
  go_enter Tryz.func7, Tryz.ntmps7
  go_wp2_with fail
  with_reducible refine K1.out.mono ?_
  rintro e w0 ⟨rfl, hb1⟩
  have HW1 := Lib.hid hb1
  obtain ⟨-, d5, d6⟩ := HS.out _ hb1
  have HB01 := Lib.hid (HB0.out.trans (hb1.mono HB0.out.size))
  clear hb1 d0 d1 d2 d3 d4 K1
  go_wp2_with fail
  with_reducible refine (K2.out _).mono ?_
  rintro e w1 ⟨rfl, hb2⟩
  have HB1 := Lib.hid (HB01.out.trans (hb2.mono HB01.out.size))
  clear hb2 d5 d6
  go_wp2
  go_ret
  exact ⟨w1.heap.size, rfl, HB1.out.size, heap_alloc_new w1 _, HB1.out.trans (((Below.refl _ w1).alloc (Nat.le_refl _) _).mono HB1.out.size)⟩
set_option maxRecDepth 100000 in
set_option maxHeartbeats 2000000 in
theorem knew_yes {w : World} (d : Nat) (t nn kp : Int) (sd b : Nat) (lg : Int) (key : ByteArray) (lay : Nat) (chk : Bool) (hbd : Bd w) (th : Nat) (hth : t = (th : Int)) (hr : Dk.right (d : Int) t nn kp = true) (ht : Tb.right (b : Int) (Tb.grp lg) = true) (hk : key.size ≤ 16) (hsd : sd < 18446744073709551616) : Calls Tryz.prog 7 #[.agg #[.int .u64 (d : Int), .int .i64 t, .int .i64 nn, .int .i64 kp, .int .u64 (sd : Int)], .agg #[.int .u64 (b : Int), .int .i64 lg], .string key, .int .u64 (lay : Int), .bool chk] w (Knew (seekOf d th nn kp sd b lg key lay) chk w) := by
  have HB0 := Lib.hid (nb_below w (d : Int) t nn kp (sd : Int) (b : Int) lg)
  have K1 : Hid (Calls Tryz.prog 19 #[.agg #[.int .u64 (d : Int), .int .i64 t, .int .i64 nn, .int .i64 kp, .int .u64 (sd : Int)]] (nb w (d : Int) t nn kp (sd : Int) (b : Int) lg) (Gives (.bool true) (nb w (d : Int) t nn kp (sd : Int) (b : Int) lg))) := Lib.hid (by
    have := dright_any (d : Int) t nn kp (sd : Int) (nb w (d : Int) t nn kp (sd : Int) (b : Int) lg) (hbd.below HB0.out)
    rwa [hr] at this)
  have K2 : Hid (∀ W, Calls Tryz.prog 20 #[.agg #[.int .u64 (b : Int), .int .i64 lg]] W (Gives (.bool true) W)) := Lib.hid (fun W => by
    have := tright_any (b : Int) lg W
    rwa [ht] at this)
  have HS : Hid (∀ W, Below (nb w (d : Int) t nn kp (sd : Int) (b : Int) lg).heap.size (nb w (d : Int) t nn kp (sd : Int) (b : Int) lg) W → (W.cell? ⟨w.heap.size, 0, none⟩ = some (.int .u64 (d : Int)) ∧ W.cell? ⟨w.heap.size, 1, none⟩ = some (.int .i64 t) ∧ W.cell? ⟨w.heap.size, 2, none⟩ = some (.int .i64 nn) ∧ W.cell? ⟨w.heap.size, 3, none⟩ = some (.int .i64 kp) ∧ W.cell? ⟨w.heap.size, 4, none⟩ = some (.int .u64 (sd : Int))) ∧ W.cell? ⟨w.heap.size + 1, 0, none⟩ = some (.int .u64 (b : Int)) ∧ W.cell? ⟨w.heap.size + 1, 1, none⟩ = some (.int .i64 lg)) := Lib.hid (fun W hb => by
    have h1 := nb_site hb
    have h2 := nb_table hb
    refine ⟨⟨?_, ?_, ?_, ?_, ?_⟩, ?_, ?_⟩ <;> simp [World.cell?, h1, h2])
  obtain ⟨⟨d0, d1, d2, d3, d4⟩, -⟩ := HS.out _ (Below.refl _ _)
  have e1 : ¬ (16 : Int) < (key.size : Int) := by omega
  have KH := Lib.hid (fun W => hash_any sd key W hsd (by unfold maxLen; omega))
  obtain ⟨c, hc⟩ : ∃ c, c = seekOf d th nn kp sd b lg key lay := ⟨_, rfl⟩
  have hh : Mx.hsh sd key.data.toList < 18446744073709551616 := Mx.hsh_lt _ _
  have HCH := Lib.hid (show c.h < 18446744073709551616 by rw [hc]; exact hh)
  have HKC : Hid (#[.int .i64 0, .int .u64 (d : Int), .int .i64 t, .int .i64 nn, .int .i64 kp, .int .u64 (sd : Int), .int .u64 (b : Int), .int .i64 lg, .string key, .int .u64 (Mx.hsh sd key.data.toList : Nat), .int .u64 (lay : Int), .bool chk, .int .i64 0, .int .i64 0, .int .i64 0, .int .u64 0, .int .u64 0, .pointer none, .pointer none, .pointer none, .int .i64 0, .int .i64 0, .int .u64 0, .string ⟨#[]⟩] = kcs c (Sk.zero chk) (.pointer none) (.pointer none) (.pointer none)) := Lib.hid (by rw [hc, hth]; simp [kcs, seekOf, Sk.zero])
  rw [← hc]
  clear hr ht hbd hk hsd hh hc hth
  go_enter Tryz.func7, Tryz.ntmps7
  go_wp2_with fail
  with_reducible refine K1.out.mono ?_
  rintro e w0 ⟨rfl, hb1⟩
  have HW1 := Lib.hid hb1
  obtain ⟨-, d5, d6⟩ := HS.out _ hb1
  have HB01 := Lib.hid (HB0.out.trans (hb1.mono HB0.out.size))
  clear hb1 d0 d1 d2 d3 d4 K1
  go_wp2_with fail
  with_reducible refine (K2.out _).mono ?_
  rintro e w1 ⟨rfl, hb2⟩
  have HB1 := Lib.hid (HB01.out.trans (hb2.mono HB01.out.size))
  have HW2 := Lib.hid (HW1.out.trans (hb2.mono HW1.out.size))
  clear hb2 d5 d6
  have hs := HS.out w1.drew (HW2.out.drew)
  go_wp2
  refine wp_region_held_drew (S := fun w' => (w'.cell? ⟨w.heap.size, 0, none⟩ = some (.int .u64 (d : Int)) ∧ w'.cell? ⟨w.heap.size, 1, none⟩ = some (.int .i64 t) ∧ w'.cell? ⟨w.heap.size, 2, none⟩ = some (.int .i64 nn) ∧ w'.cell? ⟨w.heap.size, 3, none⟩ = some (.int .i64 kp) ∧ w'.cell? ⟨w.heap.size, 4, none⟩ = some (.int .u64 (sd : Int))) ∧ w'.cell? ⟨(w.heap.size+1), 0, none⟩ = some (.int .u64 (b : Int)) ∧ w'.cell? ⟨(w.heap.size+1), 1, none⟩ = some (.int .i64 lg)) (by kernel_rfl) hs (fun hS => ?_)
  refine wpAnyH_take (i := 0) (v := .agg #[.int .u64 (d : Int), .int .i64 t, .int .i64 nn, .int .i64 kp, .int .u64 (sd : Int)]) rfl (by kernel_rfl) (by kernel_rfl) (by kernel_rfl) (fun _ _ _ h => h) (Or.inl ⟨by kernel_rfl, fun w hS => by obtain ⟨⟨s0, s1, s2, s3, s4⟩, s5, s6⟩ := hS; go_simp⟩) hS ?_
  refine wpAnyH_take (i := 1) (v := .agg #[.int .u64 (b : Int), .int .i64 lg]) rfl (by kernel_rfl) (by kernel_rfl) (by kernel_rfl) (fun _ _ _ h => h) (Or.inl ⟨by kernel_rfl, fun w hS => by obtain ⟨⟨s0, s1, s2, s3, s4⟩, s5, s6⟩ := hS; go_simp⟩) hS ?_
  refine wpAnyH_take (i := 2) (v := .string key) rfl (by kernel_rfl) (by kernel_rfl) (by kernel_rfl) (fun _ _ _ h => h) (Or.inl ⟨by kernel_rfl, fun w hS => by kernel_rfl⟩) hS ?_
  refine wpAnyH_take (i := 3) (v := .pointer (some ⟨w.heap.size, 4, none⟩)) rfl (by kernel_rfl) (by kernel_rfl) (by kernel_rfl) (fun _ _ _ h => h) (Or.inl ⟨by kernel_rfl, fun w hS => by kernel_rfl⟩) hS ?_
  refine wpAnyH_take (i := 4) (v := .int .u64 (sd : Int)) rfl (by kernel_rfl) (by kernel_rfl) (by kernel_rfl) (fun _ _ _ h => h) (Or.inl ⟨by kernel_rfl, fun w hS => by obtain ⟨⟨s0, s1, s2, s3, s4⟩, s5, s6⟩ := hS; go_simp⟩) hS ?_
  refine wpAnyH_take (i := 5) (v := .string key) rfl (by kernel_rfl) (by kernel_rfl) (by kernel_rfl) (fun _ _ _ h => h) (Or.inl ⟨by kernel_rfl, fun w hS => by kernel_rfl⟩) hS ?_
  refine wpAnyH_take (i := 7) (v := .int .u64 (lay : Int)) rfl (by kernel_rfl) (by kernel_rfl) (by kernel_rfl) (fun _ _ _ h => h) (Or.inl ⟨by kernel_rfl, fun w hS => by kernel_rfl⟩) hS ?_
  refine wpAnyH_take (i := 8) (v := .bool chk) rfl (by kernel_rfl) (by kernel_rfl) (by kernel_rfl) (fun _ _ _ h => h) (Or.inl ⟨by kernel_rfl, fun w hS => by kernel_rfl⟩) hS ?_
  refine wpAnyH_ready (rs := [6]) (by kernel_rfl) (by simp) ?_
  refine AllReadyH.cons rfl (fun K hK => ?_) AllReadyH.nil
  go_simp
  go_at_call 21
  refine (KH.out _).mono ?_
  rintro e w3 ⟨rfl, rfl⟩
  refine hK.out _ _ hS (fun hS => ?_)
  clear hK K
  refine wpAnyH_take (i := 9) (v := .agg #[.int .i64 0, .int .u64 (d : Int), .int .i64 t, .int .i64 nn, .int .i64 kp, .int .u64 (sd : Int), .int .u64 (b : Int), .int .i64 lg, .string key, .int .u64 (Mx.hsh sd key.data.toList : Nat), .int .u64 (lay : Int), .bool chk, .int .i64 0, .int .i64 0, .int .i64 0, .int .u64 0, .int .u64 0, .pointer none, .pointer none, .pointer none, .int .i64 0, .int .i64 0, .int .u64 0, .string ⟨#[]⟩]) rfl (by kernel_rfl) (by kernel_rfl) (by kernel_rfl) (fun _ _ _ h => h) (Or.inl ⟨by kernel_rfl, fun w hS => by kernel_rfl⟩) hS ?_
  refine wpAnyH_ready (rs := [10]) (by kernel_rfl) (by simp) ?_
  refine AllReadyH.cons rfl (fun K hK => ?_) AllReadyH.nil
  go_simp
  refine hK.out _ _ (HS.out _ ((HW2.out.drew).alloc (Nat.le_trans HW2.out.size (Nat.le_refl _)) _)) (fun hS => ?_)
  clear hK K
  refine wpAnyH_take (i := 11) (v := .pointer (some ⟨w1.heap.size, 0, none⟩)) rfl (by kernel_rfl) (by kernel_rfl) (by kernel_rfl) (fun _ _ _ h => h) (Or.inl ⟨by kernel_rfl, fun w hS => by kernel_rfl⟩) hS ?_
  refine wpAnyH_done (by kernel_rfl) ?_ _
  clear hS hs
  rw [HKC.out]
  obtain ⟨z, hz⟩ : ∃ z, z = w1.heap.size := ⟨_, rfl⟩
  obtain ⟨W, hW⟩ : ∃ W, W = w1.drew.alloc (.cells (kcs c (Sk.zero chk) (.pointer none) (.pointer none) (.pointer none)) 74) := ⟨_, rfl⟩
  have hkb : Kb W z c (Sk.zero chk) (.pointer none) (.pointer none) (.pointer none) := by rw [hW, hz]; exact heap_alloc_new w1.drew _
  have hbw : Below w.heap.size w W := by rw [hW]; exact HB1.out.drew.alloc HB1.out.size _
  have KT : Hid (Calls Tryz.prog 22 #[.pointer (some ⟨z, 0, none⟩), .int .i64 0] W (Ends z c (Sk.start c chk) (.pointer none) (.pointer none) (.pointer none) (.tuple #[]) W)) := Lib.hid (ktoG_any hkb 0 HCH.out)
  have HBW := Lib.hid hbw
  have HZ := Lib.hid (show w.heap.size ≤ z by rw [hz]; exact HB1.out.size)
  have HW := Lib.hid hW
  rw [← hz]
  clear hW hkb hbw hz HKC
  go_wp2_with fail
  rw [show (w1.alloc (.cells (kcs c (Sk.zero chk) (.pointer none) (.pointer none) (.pointer none)) 74)).drew = W from HW.out.symm]
  with_reducible refine KT.out.mono ?_
  rintro e w2 ⟨rfl, h1, h2⟩
  have H1 := Lib.hid h1; have H2 := Lib.hid h2; clear h1 h2
  go_wp2
  go_ret
  exact ⟨z, rfl, HZ.out, H1.out, HBW.out.trans (H2.out.below (fun k hk => by have := HZ.out; rw [show k = z from hk]; exact this) HBW.out.size)⟩
end Go.Proofs.YtknefjigdlbacaaGreatDoor
set_option linter.unusedSimpArgs false
set_option linter.unusedVariables false
namespace Go.Proofs.YtknefjigdlbacaaGreatDoor
open Go.RowKit Go.Maps
open Mm (Mem Blk)
open Ac (A)
/-- Is there such a cell? -/
def okb (M : Mem) (x : A) : Bool := match Mm.get M.L x.b with
  | none => false
  | some ws => decide (x.b < 18446744073709551616) && decide (0 ≤ x.c) && decide (x.c.toNat < ws.length) && decide (ws.length ≤ 1000000) && decide (0 ≤ ws.getD x.c.toNat 0) &&
    ((decide (x.k = 1) && decide (x.o = 0) && decide (x.n = 0)) || (decide (x.k = 2) && decide (x.o = 0)) || decide (x.k = 3) || (decide (x.k = 4) && decide (x.o = 0) && decide ((ws.getD x.c.toNat 0).toNat + x.n < 18446744073709551616)))
theorem okb_ok {M : Mem} {x : A} (h : okb M x = true) : ∃ ws, Mm.Ok M x ws := by
  unfold okb at h
  split at h
  · cases h
  · rename_i ws hg
    simp only [Bool.and_eq_true, Bool.or_eq_true, decide_eq_true_eq] at h
    obtain ⟨⟨⟨⟨⟨h1, h2⟩, h3⟩, h4⟩, h5⟩, h6⟩ := h
    refine ⟨ws, h1, hg, h2, h3, h4, h5, ?_⟩
    rcases h6 with ((⟨⟨a, b⟩, c⟩ | ⟨a, b⟩) | a) | ⟨⟨a, b⟩, c⟩
    · exact .inl ⟨a, b, c⟩
    · exact .inr (.inl ⟨a, b⟩)
    · exact .inr (.inr (.inl a))
    · exact .inr (.inr (.inr ⟨a, b, c⟩))
def runb (c : Sk.C) : Nat → Sk.S × Mem → Bool
  | 0, x => decide (x.1.p = 0)
  | N + 1, x => decide (x.1.p ≠ 0) && okb x.2 (Sk.act c x.1) && decide (Mm.ans x.2 (Sk.act c x.1) < 18446744073709551616) && decide (mu c (adv c x).1 < mu c x.1) && runb c N (adv c x)
theorem runb_all {c : Sk.C} (ho : Sk.Ok c) : ∀ (N : Nat) (x : Sk.S × Mem), Sk.Wf c x.1 → runb c N x = true →
    Course c (fun k => (cr c x k).1) (fun k => Mm.ans (cr c x k).2 (Sk.act c (cr c x k).1)) N ∧ ∀ k, k < N → DoesIt (cr c x k).2 (Sk.act c (cr c x k).1) (Mm.ans (cr c x k).2 (Sk.act c (cr c x k).1) : Nat) (cr c x (k + 1)).2
  | 0, x, hw, h => by
    have h0 : x.1.p = 0 := by simpa [runb] using h
    refine ⟨⟨fun k hk => ?_, fun k hk => by omega, fun k hk => by omega, fun k hk => by omega, h0, fun k hk => by omega⟩, fun k hk => by omega⟩
    obtain rfl : k = 0 := by omega
    exact hw
  | N + 1, x, hw, h => by
    unfold runb at h
    simp only [Bool.and_eq_true, decide_eq_true_eq] at h
    obtain ⟨⟨⟨⟨h1, h2⟩, h3⟩, h4⟩, h5⟩ := h
    obtain ⟨ws, hok⟩ := okb_ok h2
    have hd := does_it hok
    have hw2 : Sk.Wf c (adv c x).1 := Sk.wf_step ho hw h3
    obtain ⟨⟨a1, a2, a3, a4, a5, a6⟩, b⟩ := runb_all ho N (adv c x) hw2 h5
    refine ⟨⟨fun k hk => ?_, fun k hk => rfl, fun k hk => ?_, fun k hk => ?_, ?_, fun k hk => ?_⟩, fun k hk => ?_⟩
    · cases k with
      | zero => exact hw
      | succ k => rw [cr_succ]; exact a1 k (by omega)
    · cases k with
      | zero => exact h3
      | succ k => simp only [cr_succ]; exact a3 k (by omega)
    · cases k with
      | zero => exact h1
      | succ k => rw [cr_succ]; exact a4 k (by omega)
    · rw [cr_succ]; exact a5
    · cases k with
      | zero => exact h4
      | succ k => rw [cr_succ c x k, cr_succ c x (k + 1)]; exact a6 k (by omega)
    · cases k with
      | zero => exact hd
      | succ k => rw [cr_succ c x k, cr_succ c x (k + 1)]; exact b k (by omega)
theorem wf_start {c : Sk.C} (ho : Sk.Ok c) (chk : Bool) : Sk.Wf c (Sk.start c chk) :=
  Sk.wf_toG (s := Sk.zero chk) ho (by show 0 < _; omega) (by show 0 < _; omega) (by show 0 < _; omega) rfl (by show 0 ≤ 8; omega) (Nat.zero_le _)
/-! ### the chapter's example -/
def exM : Mem := ⟨200, 2, 0, [(1, [2, 16, 0, 0]), (2, [0, 0, 0, 0, 0, 0, 0, 0, 0, 0, 0, 0, 0, 0, 0, 0])]⟩
def exC (lay : Nat) : Sk.C := ⟨1, 0, 1, 1, 7, 2, 0, [107], Mx.hsh 7 [107], lay⟩
def exM2 : Mem := Smx exM (Kr.up (Kr.bx [107] [118]))
theorem ex1 : runb (exC 0) 1 (Sk.start (exC 0) false, exM) = true := by kernel_rfl
theorem ex1f : (cr (exC 0) (Sk.start (exC 0) false, exM) 1).1.f = ⟨1, 0, 0, []⟩ ∧ (cr (exC 0) (Sk.start (exC 0) false, exM) 1).2 = exM := ⟨by kernel_rfl, by kernel_rfl⟩
theorem ex2 : runb (exC 3) 4 (Sk.start (exC 3) false, exM2) = true := by kernel_rfl
theorem ex2f : (cr (exC 3) (Sk.start (exC 3) false, exM2) 4).1.f = ⟨3, 8, 25, []⟩ := by kernel_rfl
def exM3 : Mem := (cr (exC 3) (Sk.start (exC 3) false, exM2) 4).2
theorem ex3 : runb (exC 0) 7 (Sk.start (exC 0) true, exM3) = true := by kernel_rfl
theorem ex3f : (cr (exC 0) (Sk.start (exC 0) true, exM3) 7).1.f = ⟨2, 8, 25, [118]⟩ := by kernel_rfl
theorem ks_start {w : World} {q B : Nat} {c : Sk.C} {chk : Bool} {vc vs vr : Value} (h : Kb w q c (Sk.start c chk) vc vs vr) (hq : B ≤ q) : Ks B w q c (Sk.start c chk) (fun k => k = q) := by
  have hp : (Sk.start c chk).p ≠ 2 ∧ (Sk.start c chk).p ≠ 7 ∧ (Sk.start c chk).p ≠ 8 := by
    unfold Sk.start Sk.toG
    repeat' split
    all_goals simp [Sk.fin]
  exact ⟨hq, vc, vs, vr, h, .inl ⟨hp.1, hp.2.1, hp.2.2, rfl⟩⟩
end Go.Proofs.YtknefjigdlbacaaGreatDoor
