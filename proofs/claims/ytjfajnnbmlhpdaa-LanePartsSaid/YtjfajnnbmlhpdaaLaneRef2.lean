/-
  The walks of the document's own First and Fill. By an AI agent.
-/
import Derived.Test.YtjfajnnbmlhpdaaLaneRows
import Derived.Deep.QuietTactic
import Derived.BigQuiet
namespace Go.Proofs.Ytjfajnnbmlhpdaa
open Go.RowKit
/-- What is asked of a place. -/
def Hit (x a : Int) (bs : List Int) (k : Nat) : Prop := a ≤ (k : Int) ∧ Ln.byt x k ∈ bs
def NoHit (x a : Int) (bs : List Int) (k : Nat) : Prop := ∀ j, j < k → ¬ Hit x a bs j
def NoneOf (x : Int) (bs : List Int) (k i : Nat) : Prop := ∀ j, j < i → ∀ h : j < bs.length, ¬ Ln.byt x k = bs[j]
theorem first_here {x a : Int} {bs : List Int} {k : Nat} (hk : k < 8) (hn : NoHit x a bs k) (h : Hit x a bs k) : (k : Int) = Ln.fst x a bs :=
  Ln.IsFirst.unique (P := fun k => a ≤ (k : Int) ∧ Ln.byt x k ∈ bs) ⟨by omega, by omega, fun j hj => hn j (by omega), fun _ => by simpa [Hit] using h⟩ (Ln.fst_first x a bs)
theorem first_none {x a : Int} {bs : List Int} (hn : NoHit x a bs 8) : (8 : Int) = Ln.fst x a bs :=
  Ln.IsFirst.unique (P := fun k => a ≤ (k : Int) ∧ Ln.byt x k ∈ bs) (Ln.isFirst_none fun j hj => hn j hj) (Ln.fst_first x a bs)
theorem noHit_succ {x a : Int} {bs : List Int} {k : Nat} (hn : NoHit x a bs k) (h : NoneOf x bs k bs.length ∨ (k : Int) < a) : NoHit x a bs (k + 1) := by
  intro j hj
  by_cases e : j = k
  · subst e
    rintro ⟨h1, h2⟩
    rcases h with h | h
    · obtain ⟨i, hi, e⟩ := List.getElem_of_mem h2
      exact h i hi hi e.symm
    · omega
  · exact hn j (by omega)
theorem below_drewN {B : Nat} {a w : World} (h : Below B a w) (n : Nat) : Below B a (w.drewN n) := ⟨h.os, h.tape, h.output, h.size, h.block⟩
def GivesInt (n : Int) (w : World) (e : Ending) (w' : World) : Prop := e = .returned (.int .i64 n) ∧ Below w.heap.size w w'
set_option maxRecDepth 100000 in
set_option maxHeartbeats 2000000 in
theorem rfirst_any (x a : Int) (bs : List Int) (A : Option Addr) (c : Nat) (w : World) (hx0 : 0 ≤ x) (hx1 : x ≤ 18446744073709551615) (hl : bs.length ≤ 9223372036854775807) (h : Sl w w.heap.size A bs) :
    Calls Try.prog 17 #[.int .u64 x, .int .i64 a, .slice A bs.length c] w (GivesInt (Ln.fst x a bs) w) := by
  go_enter Try.func17, Try.ntmps17
  go_wp2
  go_loopw [6, 7, 8] (fun r k i wr => ∃ n : Nat, n ≤ 8 ∧ k = .int .i64 n ∧ NoHit x a bs n ∧ Below w.heap.size w wr) (fun _ k _ _ => 8 - (intOf k).toNat)
  case atStart => exact ⟨0, by omega, rfl, fun j hj => by omega, Below.refl _ _⟩
  case round =>
    obtain ⟨n, hn, rfl, hno, hB⟩ := hrel
    by_cases hlt : n < 8
    · go_wp2
      go_loopw [8] (fun i wr => ∃ m : Nat, m ≤ bs.length ∧ i = .int .i64 m ∧ NoneOf x bs n m ∧ Below w.heap.size w wr) (fun i _ => bs.length - (intOf i).toNat)
      case atStart => exact ⟨0, by omega, rfl, fun j hj => by omega, hB⟩
      case round =>
        obtain ⟨m, hm, rfl, hnm, hB2⟩ := hrel
        by_cases hmlt : m < bs.length
        · by_cases ha : a ≤ (n : Int)
          · rcases h.below hB2 with rfl | ⟨b, off, rfl, hb, hc⟩
            · simp at hmlt
            have g1 := hc m hmlt
            clear hc
            by_cases hit : Ln.byt x n = bs[m]
            · have hit' : (Ln.byt x n == bs[m]) = true := by simp [hit]
              have Hit' := Lib.hid hit; clear hit
              go_wp2
              go_quiet ((go_at_call 7; exact Calls.quiet_of_same ((rbyte_any _ _ _ hx0 hx1).mono (fun _ _ h => ⟨h.1, h.2.symm⟩))))
              go_wp2
              go_ret
              exact ⟨ret_int (first_here hlt hno ⟨ha, by rw [Hit'.out]; exact List.getElem_mem _⟩), below_drewN hB2 _⟩
            · have hit' : (Ln.byt x n == bs[m]) = false := by simp [hit]
              go_wp2
              go_quiet ((go_at_call 7; exact Calls.quiet_of_same ((rbyte_any _ _ _ hx0 hx1).mono (fun _ _ h => ⟨h.1, h.2.symm⟩))))
              go_wp2
              go_roundw
              case rel =>
                refine ⟨m + 1, by omega, by go_num, fun j hj hjl => ?_, below_drewN hB2 _⟩
                by_cases e : j = m
                · subst e; exact hit
                · exact hnm j (by omega) hjl
              case measure => simp [intOf]; omega
          · go_wp2
            go_roundw
            case rel => exact ⟨n + 1, by omega, by go_num, noHit_succ hno (.inr (by omega)), hB2⟩
            case measure => simp [intOf]; omega
        · obtain rfl : m = bs.length := by omega
          go_wp2
          go_roundw
          case rel => exact ⟨n + 1, by omega, by go_num, noHit_succ hno (.inl hnm), hB2⟩
          case measure => simp [intOf]; omega
    · obtain rfl : n = 8 := by omega
      go_wp2
      go_ret
      exact ⟨ret_int (first_none hno), hB⟩
theorem filL_take (t x : Int) (l : List Nat) (k : Nat) (hk : k < l.length) : Ln.filL t x (l.take (k + 1)) = Ln.wth (Ln.filL t x (l.take k)) (l[k] : Nat) t := by
  rw [List.take_succ_eq_append_getElem hk, Ln.filL_snoc]
def GivesWord (n : Int) (w : World) (e : Ending) (w' : World) : Prop := e = .returned (.int .u64 n) ∧ Below w.heap.size w w'
set_option maxRecDepth 100000 in
set_option maxHeartbeats 2000000 in
theorem rfill_any (x a t : Int) (w : World) (hx0 : 0 ≤ x) (hx1 : x ≤ 18446744073709551615) :
    Calls Try.prog 19 #[.int .u64 x, .int .i64 a, .int .i64 t] w (GivesWord (Ln.fil x a t) w) := by
  go_enter Try.func19, Try.ntmps19
  go_wp2_with fail
  with_reducible refine (rplaces_any _ _ _ hx0 hx1).mono ?_
  rintro e w1 ⟨A, c, rfl, hown, hb1⟩
  have hs := Sl.of_own hown
  have hlen : (plcI x a 8).length = (Ln.plc x a).length := by simp [plcI, Ln.plc]
  have hl8 := Ln.plc_len x a
  have hpl : ∀ k (h : k < (plcI x a 8).length) (h2 : k < (Ln.plc x a).length), (plcI x a 8)[k] = ((Ln.plc x a)[k] : Nat) := by
    intro k h h2
    simp [plcI, Ln.plc]
  have Hpl := Lib.hid hpl; clear hpl
  have hl8' : (plcI x a 8).length ≤ 8 := by omega
  have Hlen := Lib.hid hlen; clear hlen
  go_wp2
  go_loopw [0, 8] (fun u i wr => ∃ k : Nat, k ≤ (plcI x a 8).length ∧ i = .int .i64 k ∧ u = .int .u64 (Ln.filL t x ((Ln.plc x a).take k)) ∧ Below w1.heap.size w1 wr) (fun _ i _ => 8 - (intOf i).toNat)
  case atStart => exact ⟨0, by omega, rfl, rfl, Below.refl _ _⟩
  case round =>
    obtain ⟨k, hk, rfl, rfl, hB⟩ := hrel
    obtain ⟨f0, f1⟩ := Ln.filL_bd (x := x) t ((Ln.plc x a).take k) hx0 hx1
    by_cases hlt : k < (plcI x a 8).length
    · rcases hs.below hB with h | ⟨b, off, rfl, hb, hc⟩
      · rw [h] at hlt; simp at hlt
      have g1 := hc k hlt
      clear hc
      have hst := filL_take t x (Ln.plc x a) k (by have := Hlen.out; omega)
      rw [← Hpl.out k hlt (by have := Hlen.out; omega)] at hst
      have Hst := Lib.hid hst; clear hst
      go_wp2_with fail
      with_reducible refine (rwith_any _ _ _ _ f0 f1).mono ?_
      rintro e w2 ⟨rfl, hb2⟩
      go_wp2
      go_roundw
      case rel => exact ⟨k + 1, by omega, by go_num, by rw [Hst.out], hB.trans (hb2.mono hB.size)⟩
      case measure => simp [intOf]; omega
    · have hk' : k = (Ln.plc x a).length := by have := Hlen.out; omega
      go_wp2
      go_ret
      refine ⟨ret_int ?_, below_then hb1 hB⟩
      unfold Ln.fil
      rw [hk', List.take_length]
end Go.Proofs.Ytjfajnnbmlhpdaa
