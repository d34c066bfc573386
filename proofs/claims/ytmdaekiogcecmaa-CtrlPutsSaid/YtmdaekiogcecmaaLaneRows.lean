/-
  The walks of the document's own Places, and of the comparison of two lists. By an AI agent.
-/
import Derived.Test.YtmdaekiogcecmaaLaneRef
import Derived.OwnWalk
import Derived.Maps.AppendAt
import Derived.Laws.OwnMore
import Derived.RangeFuncBox
namespace Go.Proofs.Ytmdaekiogcecmaa
open Go.RowKit
/-- A slice's address under which the numbers xs lie, below block B. -/
def Sl (w : World) (B : Nat) (A : Option Addr) (xs : List Int) : Prop :=
  xs = [] ∨ ∃ b off, A = some ⟨b, off, none⟩ ∧ b < B ∧ ∀ j (h : j < xs.length), w.cell? ⟨b, off + j, none⟩ = some (.int .i64 xs[j])
theorem Sl.below {w w' : World} {B : Nat} {A : Option Addr} {xs : List Int} (h : Sl w B A xs) (hb : Below B w w') : Sl w' B A xs := by
  rcases h with h | ⟨b, off, rfl, hlt, hc⟩
  · exact .inl h
  · exact .inr ⟨b, off, rfl, hlt, fun j hj => (hb.cell (p := ⟨b, off + j, none⟩) hlt).trans (hc j hj)⟩
theorem Sl.mono {w : World} {B B' : Nat} {A : Option Addr} {xs : List Int} (h : Sl w B A xs) (hb : B ≤ B') : Sl w B' A xs := by
  rcases h with h | ⟨b, off, rfl, hlt, hc⟩
  · exact .inl h
  · exact .inr ⟨b, off, rfl, by omega, hc⟩
theorem Sl.of_own {w : World} {base n : Nat} {A : Option Addr} {c : Nat} {xs : List Int} (h : w.ownsRow base 3 1 (.slice A n c) n (xs.map (Value.int .i64))) : Sl w w.heap.size A xs := by
  rcases h.2 with ⟨hv, rfl⟩ | ⟨g, cap, cur, hv, _, hg, _⟩
  · have := h.1; simp at this; exact .inl this
  · simp only [Value.slice.injEq] at hv
    obtain ⟨rfl, -, rfl⟩ := hv
    refine .inr ⟨g, 0, rfl, (Array.getElem?_eq_some_iff.1 hg).1, fun j hj => ?_⟩
    have hl := h.1
    simp at hl
    rw [Nat.zero_add, h.cellAt j (by omega)]
    simp [hj]
theorem info_int : (Try.prog.info? 3).map (fun i => (i.zero, i.size, i.bytes)) = some (some (.int .i64 0), 1, 8) := by kernel_rfl
/-- What is handed back is a list of numbers of the call's own. -/
def RowOf (xs : List Int) (w : World) (e : Ending) (w' : World) : Prop := ∃ A c, e = .returned (.slice A xs.length c) ∧ w'.ownsRow w.heap.size 3 1 (.slice A xs.length c) xs.length (xs.map (Value.int .i64)) ∧ Below w.heap.size w w'
theorem rowOf_of {xs : List Int} {w w' : World} {v : Value} (hrow : w'.ownsRow w.heap.size 3 1 v xs.length (xs.map (Value.int .i64))) (hb : Below w.heap.size w w') : RowOf xs w (.returned v) w' := by
  rcases hrow.2 with ⟨rfl, h0⟩ | ⟨g, cap, cur, rfl, _⟩
  · refine ⟨none, 0, ?_, ?_, hb⟩
    · rw [h0]
    · rw [h0] at hrow ⊢; exact hrow
  · exact ⟨_, _, rfl, hrow, hb⟩
/-- The places as whole numbers. -/
def plcI (x b : Int) (k : Nat) : List Int := (Ln.plcTo x b k).map fun j : Nat => (j : Int)
theorem plcI_len (x b : Int) (k : Nat) : (plcI x b k).length ≤ k := by unfold plcI; rw [List.length_map]; exact Ln.plcTo_len x b k
theorem plcI_hit {x b : Int} {k : Nat} (h : Ln.byt x k = b) : plcI x b (k + 1) = plcI x b k ++ [(k : Int)] := by unfold plcI; rw [Ln.plcTo_hit h]; simp
theorem plcI_miss {x b : Int} {k : Nat} (h : ¬ Ln.byt x k = b) : plcI x b (k + 1) = plcI x b k := by unfold plcI; rw [Ln.plcTo_miss h]
set_option maxRecDepth 100000 in
set_option maxHeartbeats 2000000 in
theorem rplaces_any (x b : Int) (w : World) (hx0 : 0 ≤ x) (hx1 : x ≤ 18446744073709551615) : Calls Try.prog 30 #[.int .u64 x, .int .i64 b] w (RowOf (plcI x b 8) w) := by
  obtain ⟨i0, hi, hz0, hz1, hz2⟩ := info_parts info_int
  have Hz0 := Lib.hid hz0; clear hz0
  have Hz1 := Lib.hid hz1; clear hz1
  have Hz2 := Lib.hid hz2; clear hz2
  have Hi := Lib.hid hi; clear hi
  go_enter Try.func30, Try.ntmps30
  go_wp2
  go_loopw [5, 6] (fun v i wr => ∃ k : Nat, k ≤ 8 ∧ i = .int .i64 k ∧ wr.ownsRow w.heap.size 3 1 v (plcI x b k).length ((plcI x b k).map (Value.int .i64)) ∧ Below w.heap.size w wr)
    (fun _ i _ => 8 - (intOf i).toNat)
  case atStart => exact ⟨0, by omega, rfl, World.ownsRow_lit (size := 1) w #[] 0 (Nat.le_refl _) (by decide) (by decide), (Below.refl _ _).alloc (Nat.le_refl _) _⟩
  case round =>
    obtain ⟨k, hk, rfl, hown, hB⟩ := hrel
    by_cases hlt : k < 8
    · by_cases hit : Ln.byt x k = b
      · have hl := plcI_len x b k
        have hit' : (Ln.byt x k == b) = true := by simp [hit]
        have Hit := Lib.hid hit; clear hit
        go_wp2_with (first | (go_at_call 18; refine (rbyte_any _ _ _ hx0 hx1).mono ?_; rintro e w' ⟨rfl, rfl⟩) | (at_builtin; refine wpList_append_own _ rfl _ _ 31 rfl w.heap.size 3 i0 (.int .i64 0) 1 8 Try.underlying31 Hi.out Hz0.out Hz1.out Hz2.out rfl (by decide) _ _ _ rfl (hown.alloc _) ⟨wr.heap.size, 0, none⟩ 1 1 [.int .i64 k] rfl rfl ?c1 ?c2 ?c3 ?c4 ?c5 ?_))
        case c1 => exact cell_one_new _ _ _
        case c2 => simp [Value.oneCell']
        case c3 => unfold maxLen; omega
        case c4 => omega
        case c5 => have := hB.size; simp; omega
        intro v' w1 hown' hgrow _
        have hB1 : Below w.heap.size w w1 := (hB.alloc hB.size _).grown hgrow (by have := hB.size; simp; omega) (fun j e => (hown.lt j e).1)
        have hown2 : w1.ownsRow w.heap.size 3 1 v' (plcI x b (k + 1)).length ((plcI x b (k + 1)).map (Value.int .i64)) := by
          rw [plcI_hit Hit.out]; simpa using hown'
        clear hown' hgrow hown
        go_wp2
        go_roundw
        case rel => exact ⟨k + 1, by omega, by go_num, hown2, hB1⟩
        case measure => simp [intOf]; omega
      · have hit' : (Ln.byt x k == b) = false := by simp [hit]
        go_wp2_with (go_at_call 18; refine (rbyte_any _ _ _ hx0 hx1).mono ?_; rintro e w' ⟨rfl, rfl⟩)
        go_roundw
        case rel => exact ⟨k + 1, by omega, by go_num, by rw [plcI_miss hit]; exact hown, hB⟩
        case measure => simp [intOf]; omega
    · obtain rfl : k = 8 := by omega
      go_wp2
      go_ret
      exact rowOf_of hown hB
set_option maxRecDepth 100000 in
set_option maxHeartbeats 2000000 in
/-- Two slices of the same numbers are found the same. -/
theorem ints_same (xs : List Int) (A A' : Option Addr) (c c' : Nat) (w : World) (hl : xs.length ≤ 9223372036854775807) (h : Sl w w.heap.size A xs) (h' : Sl w w.heap.size A' xs) :
    Calls Try.prog 15 #[.slice A xs.length c, .slice A' xs.length c'] w fun e w' => e = .returned (.bool true) ∧ Below w.heap.size w w' := by
  have hne : ((xs.length : Int) != (xs.length : Int)) = false := by simp
  go_enter Try.func15, Try.ntmps15
  go_wp2
  go_loopw [5] (fun i wr => ∃ k : Nat, k ≤ xs.length ∧ i = .int .i64 k ∧ Below w.heap.size w wr) (fun i _ => xs.length - (intOf i).toNat)
  case atStart => exact ⟨0, by omega, rfl, Below.refl _ _⟩
  case round =>
    obtain ⟨k, hk, rfl, hB⟩ := hrel
    by_cases hlt : k < xs.length
    · rcases h.below hB with rfl | ⟨b, off, rfl, hb, hc⟩
      · simp at hlt
      rcases h'.below hB with rfl | ⟨b', off', rfl, hb', hc'⟩
      · simp at hlt
      have g1 := hc k hlt
      have g2 := hc' k hlt
      have e1 : (xs[k] != xs[k]) = false := by simp
      clear hc hc'
      go_wp2
      go_region
      all_goals go_wp2
      all_goals go_roundw
      all_goals first | exact ⟨k + 1, by omega, by go_num, hB.drew⟩ | (simp [intOf]; omega)
    · obtain rfl : k = xs.length := by omega
      go_wp2
      go_ret
      exact ⟨rfl, hB⟩
end Go.Proofs.Ytmdaekiogcecmaa
