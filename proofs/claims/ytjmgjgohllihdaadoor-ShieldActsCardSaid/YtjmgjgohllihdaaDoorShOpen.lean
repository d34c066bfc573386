/-
  How the arguments are opened: an array of three numbers. By an AI agent.
-/
import Derived.Test.YtjmgjgohllihdaaDoorShActs
import Derived.WideKeyPair
import Derived.WideKeyArr2
import Derived.OpenShut
set_option linter.unusedSimpArgs false
namespace Go.Proofs.YtjmgjgohllihdaaDoor
open Go.RowKit Go.Maps Go.WideMaps Go.ChangeShapes Go.WideShapes
theorem open_three {H : Type} {enc : TypeId × Value → H} {P : Program} {k e : TypeId} {q : IntKind} {W : World} {base : Nat} {sp : Nat → Bool} {held : Bool} (A : ArrKey P k e 3) (he : P.underlying e = some (.int q)) {r : Reach} {b0 : Nat} {v : Value} {d : DataW H} {ps : List MemPlace}
    (hval : Value.okWide P W r b0 k v) (hd : DataW.Trod enc P W base sp held k v d ps) :
    ∃ a b c : Int, v = .agg #[.int q a, .int q b, .int q c] ∧ (Lit.int q a).wf = true ∧ (Lit.int q b).wf = true ∧ (Lit.int q c).wf = true := by
  obtain ⟨⟨l⟩, rfl, hn⟩ := okWide_arr A hval
  obtain ⟨fuel, hf⟩ := hd
  match l, hn with
  | [c0, c1, c2], _ =>
    cases fuel with
    | zero => simp [DataW.trod] at hf
    | succ n =>
      rw [DataW.trod_step] at hf
      unfold DataW.trodStep at hf
      simp only [A.hu, Value.cells] at hf
      rw [if_pos (by rw [A.size]; rfl)] at hf
      obtain ⟨xs, hx, -⟩ := Option.map_eq_some_iff.1 hf
      have hr : List.range 3 = [0, 1, 2] := rfl
      simp only [hr, List.mapM_cons, List.mapM_nil, bind, Option.bind_eq_some_iff, pure, Option.some.injEq, A.one] at hx
      obtain ⟨y0, h0, _, ⟨y1, h1, _, ⟨y2, h2, _, rfl, rfl⟩, rfl⟩, rfl⟩ := hx
      obtain ⟨a, ea, -, wa⟩ := DataW.trod_int he h0
      obtain ⟨b, eb, -, wb⟩ := DataW.trod_int he h1
      obtain ⟨c, ec, -, wc⟩ := DataW.trod_int he h2
      simp at ea eb ec
      subst ea; subst eb; subst ec
      exact ⟨a, b, c, rfl, wa, wb, wc⟩
end Go.Proofs.YtjmgjgohllihdaaDoor
