/-
  The walk of MakerActs. By an AI agent.
-/
import Derived.Test.YtdhhhkjbpfhkaaaMkAwake
import Derived.Test.YtdhhhkjbpfhkaaaMkMake2
set_option linter.unusedSimpArgs false
set_option linter.unusedVariables false
namespace Go.Proofs.Ytdhhhkjbpfhkaaa
open Go.RowKit Go.Maps
open Mm (Mem Blk)
open Ac (A)
set_option maxHeartbeats 1000000 in
theorem acts_out (k v : ByteArray) (A : Option Addr) (len c : Nat) (w : World) (hk : k.size ≤ maxLen) (hv : v.size ≤ maxLen) (hl : len ≤ maxLen) (h : 20 < len ∨ 1000 < k.size ∨ 1000 < v.size) :
    Calls Try.prog 3 #[.string k, .string v, .slice A len c] w (Gives (.bool true) w) := by
  unfold maxLen at hk hv hl
  have AW := Lib.hid awake_any
  by_cases h1 : 20 < len
  · clear h
    go_enter Try.func3, Try.ntmps3
    go_wp2_with fail
    with_reducible refine (AW.out _).mono ?_
    rintro e w' ⟨rfl, hb⟩
    go_wp2
    go_ret
    exact ⟨rfl, hb⟩
  · by_cases h2 : 1000 < k.size
    · clear h
      go_enter Try.func3, Try.ntmps3
      go_wp2_with fail
      with_reducible refine (AW.out _).mono ?_
      rintro e w' ⟨rfl, hb⟩
      go_wp2
      go_ret
      exact ⟨rfl, hb⟩
    · have h3 : 1000 < v.size := by omega
      clear h
      go_enter Try.func3, Try.ntmps3
      go_wp2_with fail
      with_reducible refine (AW.out _).mono ?_
      rintro e w' ⟨rfl, hb⟩
      go_wp2
      go_ret
      exact ⟨rfl, hb⟩
set_option maxRecDepth 100000 in
set_option maxHeartbeats 4000000 in
theorem acts_long (k v : ByteArray) (A : Option Addr) (len c : Nat) (w : World) (hk : k.size ≤ 1000) (hv : v.size ≤ 1000) (hl : len ≤ 20) (h : 16 < k.size ∨ 24 < v.size) :
    Calls Try.prog 3 #[.string k, .string v, .slice A len c] w (Gives (.bool true) w) := by
  have AW := Lib.hid awake_any
  have KN := Lib.hid (knew_no k v w (by unfold maxLen; omega) (by unfold maxLen; omega) h)
  have KB : Hid (∀ w1 q, Blank w1 q → Calls Try.prog 7 #[.pointer (some ⟨q, 0, none⟩)] w1 (Gives (.tuple #[av ⟨0, 0, 0, 0, 0⟩, .bool false]) w1)) := Lib.hid (fun w1 q h => blank_act h)
  have KT : Hid (∀ w1 q, Blank w1 q → Calls Try.prog 8 #[.pointer (some ⟨q, 0, none⟩), .int .u64 1] w1 (Gives (.tuple #[]) w1)) := Lib.hid (fun w1 q h => blank_take h 1)
  have KR : Hid (∀ w1 q, Blank w1 q → Calls Try.prog 9 #[.pointer (some ⟨q, 0, none⟩)] w1 (Same (.tuple #[.int .u64 0, .bool false]) w1)) := Lib.hid (fun w1 q h => blank_res h)
  have hww : ∃ t : Bool, decide ((16 : Int) < (k.size : Int)) = t ∧ (t = false → decide ((24 : Int) < (v.size : Int)) = true) := by
    refine ⟨_, rfl, fun e => ?_⟩
    have e := of_decide_eq_false e
    exact decide_eq_true (by omega)
  obtain ⟨t, ht, ht2⟩ := hww
  clear h
  cases t
  all_goals
    try have ht2 := ht2 rfl
    go_enter Try.func3, Try.ntmps3
    go_wp2_with fail
    with_reducible refine KN.out.mono ?_
    rintro e w1 ⟨rfl, hB, hb1⟩
    have HB1 := Lib.hid hb1
    obtain ⟨q, hq⟩ : ∃ q, q = w.heap.size := ⟨_, rfl⟩
    rw [← hq] at hB ⊢
    clear hb1 hq KN
    go_wp2_with fail
    with_reducible refine (KB.out _ _ hB).mono ?_
    rintro e w2 ⟨rfl, hb2⟩
    obtain ⟨W, hW⟩ : ∃ W, W = w2.alloc (.cells #[.int .i64 0, .int .u64 0, .int .i64 0, .int .u64 0, .int .u64 0] 28) := ⟨_, rfl⟩
    have hbW : Below w1.heap.size w1 W := hb2.trans (by rw [hW]; exact ((Below.refl _ w2).alloc (Nat.le_refl _) _).mono hb2.size)
    have hBW : Blank W q := Mk.below hB hbW
    have HB2 := Lib.hid (HB1.out.trans (hbW.mono HB1.out.size))
    clear hb2 hbW hB HB1
    go_wp2_with fail
    rw [← hW]
    clear hW
    with_reducible refine (KT.out _ _ hBW).mono ?_
    rintro e w3 ⟨rfl, hb3⟩
    have hB3 : Blank w3 q := Mk.below hBW hb3
    have HB3 := Lib.hid (HB2.out.trans (hb3.mono HB2.out.size))
    clear hb3 hBW HB2
    go_wp2_with fail
    with_reducible refine (KR.out _ _ hB3).mono ?_
    rintro e w4 ⟨rfl, rfl⟩
    go_wp2_with fail
    with_reducible refine (AW.out _).mono ?_
    rintro e w4 ⟨rfl, hb4⟩
    have HB4 := Lib.hid (HB3.out.trans (hb4.mono HB3.out.size))
    clear hb4 hB3 HB3
    go_wp2
    go_ret
    exact ⟨rfl, HB4.out⟩
end Go.Proofs.Ytdhhhkjbpfhkaaa
