/-
  The walk of the document's own Fill. By an AI agent.
-/
import Derived.Test.YtmdaekiogcecmaaLaneRows
import Derived.Deep.QuietTactic
import Derived.BigQuiet
namespace Go.Proofs.Ytmdaekiogcecmaa
open Go.RowKit
theorem below_drewN {B : Nat} {a w : World} (h : Below B a w) (n : Nat) : Below B a (w.drewN n) := ⟨h.os, h.tape, h.output, h.size, h.block⟩
def GivesInt (n : Int) (w : World) (e : Ending) (w' : World) : Prop := e = .returned (.int .i64 n) ∧ Below w.heap.size w w'
theorem filL_take (t x : Int) (l : List Nat) (k : Nat) (hk : k < l.length) : Ln.filL t x (l.take (k + 1)) = Ln.wth (Ln.filL t x (l.take k)) (l[k] : Nat) t := by
  rw [List.take_succ_eq_append_getElem hk, Ln.filL_snoc]
def GivesWord (n : Int) (w : World) (e : Ending) (w' : World) : Prop := e = .returned (.int .u64 n) ∧ Below w.heap.size w w'
set_option maxRecDepth 100000 in
set_option maxHeartbeats 2000000 in
theorem rfill_any (x a t : Int) (w : World) (hx0 : 0 ≤ x) (hx1 : x ≤ 18446744073709551615) :
    Calls Try.prog 24 #[.int .u64 x, .int .i64 a, .int .i64 t] w (GivesWord (Ln.fil x a t) w) := by
  go_enter Try.func24, Try.ntmps24
  go_wp2_with fail
  with_reducible refine (rplaces_any _ _ _ hx0 hx1).mono ?_
  rintro e w1 ⟨A, c, rfl, hown, hb1⟩
  have hs := Sl.of_own hown
  have hlen : (plcI x a 8).length = (Ln.plc x a).length := by simp [plcI, Ln.plc]
  have hl8 := Ln.plc_len x a
  have hpl : ∀ k (h : k < (plcI x a 8).length) (h2 : k < (Ln.plc x a).length), (plcI x a 8)[k] = ((Ln.plc x a)[k] : Nat) := by
    intro k h h2
    simp [plcI, Ln.plc]
  have Hpl := Lib.hid hpl; clear hpl
  have hl8' : (plcI x a 8).length ≤ 8 := by omega
  have Hlen := Lib.hid hlen; clear hlen
  go_wp2
  go_loopw [0, 8] (fun u i wr => ∃ k : Nat, k ≤ (plcI x a 8).length ∧ i = .int .i64 k ∧ u = .int .u64 (Ln.filL t x ((Ln.plc x a).take k)) ∧ Below w1.heap.size w1 wr) (fun _ i _ => 8 - (intOf i).toNat)
  case atStart => exact ⟨0, by omega, rfl, rfl, Below.refl _ _⟩
  case round =>
    obtain ⟨k, hk, rfl, rfl, hB⟩ := hrel
    obtain ⟨f0, f1⟩ := Ln.filL_bd (x := x) t ((Ln.plc x a).take k) hx0 hx1
    by_cases hlt : k < (plcI x a 8).length
    · rcases hs.below hB with h | ⟨b, off, rfl, hb, hc⟩
      · rw [h] at hlt; simp at hlt
      have g1 := hc k hlt
      clear hc
      have hst := filL_take t x (Ln.plc x a) k (by have := Hlen.out; omega)
      rw [← Hpl.out k hlt (by have := Hlen.out; omega)] at hst
      have Hst := Lib.hid hst; clear hst
      go_wp2_with fail
      with_reducible refine (rwith_any _ _ _ _ f0 f1).mono ?_
      rintro e w2 ⟨rfl, hb2⟩
      go_wp2
      go_roundw
      case rel => exact ⟨k + 1, by omega, by go_num, by rw [Hst.out], hB.trans (hb2.mono hB.size)⟩
      case measure => simp [intOf]; omega
    · have hk' : k = (Ln.plc x a).length := by have := Hlen.out; omega
      go_wp2
      go_ret
      refine ⟨ret_int ?_, below_then hb1 hB⟩
      unfold Ln.fil
      rw [hk', List.take_length]
end Go.Proofs.Ytmdaekiogcecmaa
