/-
  The walk of ShieldHolds. By an AI agent.
-/
import Derived.Test.YtjmgjgohllihdaaDoorShRun
import Derived.Test.YtjmgjgohllihdaaDoorShActs2
set_option linter.unusedSimpArgs false
set_option linter.unusedVariables false
namespace Go.Proofs.YtjmgjgohllihdaaDoor
open Go.RowKit Go.Maps
open Mm (Mem Blk)
open Ac (A)
/-- Where the truths of a slice lie. -/
def Bl (w : World) (B : Nat) (A : Option Addr) (bs : List Bool) : Prop :=
  bs = [] ∨ ∃ b off, A = some ⟨b, off, none⟩ ∧ b < B ∧ ∀ j (h : j < bs.length), w.cell? ⟨b, off + j, none⟩ = some (.bool bs[j])
theorem Bl.below {w w' : World} {B : Nat} {A : Option Addr} {bs : List Bool} (h : Bl w B A bs) (hb : Below B w w') : Bl w' B A bs := by
  rcases h with h | ⟨b, off, rfl, hlt, hc⟩
  · exact .inl h
  · exact .inr ⟨b, off, rfl, hlt, fun j hj => (hb.cell (p := ⟨b, off + j, none⟩) hlt).trans (hc j hj)⟩
theorem bl_at {w : World} {B n : Nat} {A : Option Addr} {bs : List Bool} (h : Bl w B A bs) (hn : n < bs.length) : ∃ b0 off, A = some ⟨b0, off, none⟩ ∧ w.cell? ⟨b0, off + n, none⟩ = some (.bool (bs.getD n false)) := by
  rcases h with h0 | ⟨b0, off, e, hb0, hc0⟩
  · rw [h0] at hn; simp at hn
  · refine ⟨b0, off, e, ?_⟩
    rw [hc0 n hn, List.getD_eq_getElem?_getD, List.getElem?_eq_getElem hn]; rfl
set_option maxRecDepth 100000 in
set_option maxHeartbeats 4000000 in
theorem sholds_out (d t n k s : Int) (A : Option Addr) (len c : Nat) (A2 : Option Addr) (len2 c2 : Nat) (w : World) (hbd : Bd w) (h0 : 0 ≤ d) (hl : len ≤ maxLen) (hl2 : len2 ≤ maxLen) (h : Dk.right d t n k = false ∨ len = 0 ∨ 40 < len ∨ 60 < len2) :
    Calls Tryd.prog 4 #[.agg (siteC d t n k s), .slice A len c, .slice A2 len2 c2] w (Gives (.bool true) w) := by
  unfold maxLen at hl hl2
  have HB := Lib.hid (sboxed_below w d t n k s)
  have AW := Lib.hid (fun W (hb : Below w.heap.size w W) => awake_any W (hbd.below hb))
  have KR0 := drright_any d t n k s (sboxed w d t n k s) h0
  clear hbd h0
  by_cases hr : Dk.right d t n k = false
  · rw [hr] at KR0
    have KR := Lib.hid KR0
    clear h hr KR0
    go_enter Tryd.func4, Tryd.ntmps4
    go_wp2_with fail
    with_reducible refine KR.out.mono ?_
    rintro e w1 ⟨rfl, hb⟩
    have HB1 := Lib.hid (HB.out.trans (hb.mono HB.out.size))
    have K := Lib.hid (AW.out _ HB1.out)
    clear hb
    go_wp2_with fail
    with_reducible refine K.out.mono ?_
    rintro e w' ⟨rfl, hb⟩
    go_wp2
    go_ret
    exact ⟨rfl, HB1.out.trans (hb.mono HB1.out.size)⟩
  · have hr : Dk.right d t n k = true := by revert hr; cases Dk.right d t n k <;> simp
    rw [hr] at KR0
    have KR := Lib.hid KR0
    have h : len = 0 ∨ 40 < len ∨ 60 < len2 := by rw [hr] at h; rcases h with h | h; cases h; exact h
    clear hr KR0
    by_cases h2 : len = 0
    · have e0 : ((len : Int) == 0) = true := by simp; omega
      clear h
      go_enter Tryd.func4, Tryd.ntmps4
      go_wp2_with fail
      with_reducible refine KR.out.mono ?_
      rintro e w1 ⟨rfl, hb⟩
      have HB1 := Lib.hid (HB.out.trans (hb.mono HB.out.size))
      have K := Lib.hid (AW.out _ HB1.out)
      clear hb
      go_wp2_with fail
      with_reducible refine K.out.mono ?_
      rintro e w' ⟨rfl, hb⟩
      go_wp2
      go_ret
      exact ⟨rfl, HB1.out.trans (hb.mono HB1.out.size)⟩
    have e0 : ((len : Int) == 0) = false := by simp; omega
    by_cases h1 : 40 < len
    · have h1Z : (40 : Int) < (len : Int) := by omega
      clear h h2
      go_enter Tryd.func4, Tryd.ntmps4
      go_wp2_with fail
      with_reducible refine KR.out.mono ?_
      rintro e w1 ⟨rfl, hb⟩
      have HB1 := Lib.hid (HB.out.trans (hb.mono HB.out.size))
      have K := Lib.hid (AW.out _ HB1.out)
      clear hb
      go_wp2_with fail
      with_reducible refine K.out.mono ?_
      rintro e w' ⟨rfl, hb⟩
      go_wp2
      go_ret
      exact ⟨rfl, HB1.out.trans (hb.mono HB1.out.size)⟩
    · have h1Z : ¬ (40 : Int) < (len : Int) := by omega
      have h2Z : (60 : Int) < (len2 : Int) := by omega
      clear h h1 h2
      go_enter Tryd.func4, Tryd.ntmps4
      go_wp2_with fail
      with_reducible refine KR.out.mono ?_
      rintro e w1 ⟨rfl, hb⟩
      have HB1 := Lib.hid (HB.out.trans (hb.mono HB.out.size))
      have K := Lib.hid (AW.out _ HB1.out)
      clear hb
      go_wp2_with fail
      with_reducible refine K.out.mono ?_
      rintro e w' ⟨rfl, hb⟩
      go_wp2
      go_ret
      exact ⟨rfl, HB1.out.trans (hb.mono HB1.out.size)⟩
end Go.Proofs.YtjmgjgohllihdaaDoor
