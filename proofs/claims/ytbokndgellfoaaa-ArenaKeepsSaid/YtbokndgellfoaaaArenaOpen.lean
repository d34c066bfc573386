/-
  How the arguments are opened: an array of three numbers. By an AI agent.
-/
import Derived.Test.YtbokndgellfoaaaArenaKeeps
import Derived.WideKeyPair
import Derived.WideKeyArr2
import Derived.OpenShut
set_option linter.unusedSimpArgs false
namespace Go.Proofs.Ytbokndgellfoaaa
open Go.RowKit Go.Maps Go.WideMaps Go.ChangeShapes Go.WideShapes
open Mm (Mem Blk)
theorem open_three {H : Type} {enc : TypeId × Value → H} {P : Program} {k e : TypeId} {q : IntKind} {W : World} {base : Nat} {sp : Nat → Bool} {held : Bool} (A : ArrKey P k e 3) (he : P.underlying e = some (.int q)) {r : Reach} {b0 : Nat} {v : Value} {d : DataW H} {ps : List MemPlace}
    (hval : Value.okWide P W r b0 k v) (hd : DataW.Trod enc P W base sp held k v d ps) :
    ∃ a b c : Int, v = .agg #[.int q a, .int q b, .int q c] ∧ (Lit.int q a).wf = true ∧ (Lit.int q b).wf = true ∧ (Lit.int q c).wf = true := by
  obtain ⟨⟨l⟩, rfl, hn⟩ := okWide_arr A hval
  obtain ⟨fuel, hf⟩ := hd
  match l, hn with
  | [c0, c1, c2], _ =>
    cases fuel with
    | zero => simp [DataW.trod] at hf
    | succ n =>
      rw [DataW.trod_step] at hf
      unfold DataW.trodStep at hf
      simp only [A.hu, Value.cells] at hf
      rw [if_pos (by rw [A.size]; rfl)] at hf
      obtain ⟨xs, hx, -⟩ := Option.map_eq_some_iff.1 hf
      have hr : List.range 3 = [0, 1, 2] := rfl
      simp only [hr, List.mapM_cons, List.mapM_nil, bind, Option.bind_eq_some_iff, pure, Option.some.injEq, A.one] at hx
      obtain ⟨y0, h0, _, ⟨y1, h1, _, ⟨y2, h2, _, rfl, rfl⟩, rfl⟩, rfl⟩ := hx
      obtain ⟨a, ea, -, wa⟩ := DataW.trod_int he h0
      obtain ⟨b, eb, -, wb⟩ := DataW.trod_int he h1
      obtain ⟨c, ec, -, wc⟩ := DataW.trod_int he h2
      simp at ea eb ec
      subst ea; subst eb; subst ec
      exact ⟨a, b, c, rfl, wa, wb, wc⟩
set_option maxRecDepth 100000 in
set_option maxHeartbeats 2000000 in
theorem keeps_few (A : Option Addr) (len cap : Nat) (x0 x1 x2 v : Int) (w : World) (hm : len ≤ 9223372036854775807) (h : len = 0 ∨ 20 < len) :
    Calls Try.prog 4 #[.slice A len cap, .agg #[.int .u8 x0, .int .u8 x1, .int .u8 x2], .int .u64 v] w (Gives (.bool true) w) := by
  have hB0 : Below w.heap.size w (w.alloc (.cells #[.int .u8 x0, .int .u8 x1, .int .u8 x2] 56)) := (Below.refl _ w).alloc (Nat.le_refl _) _
  have HB0 := Lib.hid hB0; clear hB0
  rcases h with h | h
  · subst h
    go_enter Try.func4, Try.ntmps4
    go_wp2_with fail
    with_reducible refine (awake_any _).mono ?_
    rintro e w1 ⟨rfl, hb⟩
    go_wp2_with fail
    go_ret
    exact ⟨rfl, HB0.out.trans (hb.mono (by simp))⟩
  · have h20 : (20 : Int) < (len : Int) := by omega
    have hd0 : ((len : Int) == 0) = false := by simp; omega
    go_enter Try.func4, Try.ntmps4
    go_wp2_with fail
    with_reducible refine (awake_any _).mono ?_
    rintro e w1 ⟨rfl, hb⟩
    go_wp2_with fail
    go_ret
    exact ⟨rfl, HB0.out.trans (hb.mono (by simp))⟩
end Go.Proofs.Ytbokndgellfoaaa
