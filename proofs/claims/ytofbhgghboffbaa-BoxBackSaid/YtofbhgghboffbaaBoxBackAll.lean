/-
  BoxBack, all ways together; and how its argument of two texts is opened. By an AI agent.
-/
import Derived.Test.YtofbhgghboffbaaBoxBack
import Derived.WideKeyPair
namespace Go.Proofs.Ytofbhgghboffbaa
open Go.RowKit
theorem list_both (k v o0 o1 : ByteArray) (hk : k.size ≤ 16) (hv : v.size ≤ 24) (h0 : o0.size ≤ 16) (h1 : o1.size ≤ 24) :
    ((k.toList == o0.toList) && (v.toList == o1.toList)) = true ↔ Bx.box k.data.toList v.data.toList = Bx.box o0.data.toList o1.data.toList := by
  rw [Bx.box_inj (by rw [ba_len]; exact hk) (by rw [ba_len]; exact hv) (by rw [ba_len]; exact h0) (by rw [ba_len]; exact h1), ByteArray.toList_eq, ByteArray.toList_eq, ByteArray.toList_eq, ByteArray.toList_eq]
  simp
theorem back_walk (k v o0 o1 : ByteArray) (w : World) (hk : k.size ≤ maxLen) (hv : v.size ≤ maxLen) (h0 : o0.size ≤ maxLen) (h1 : o1.size ≤ maxLen) :
    Calls Try.prog 4 #[.string k, .string v, pair2 o0 o1] w (Gives (.bool true) w) := by
  by_cases h : 1000 < k.size ∨ 1000 < v.size ∨ 1000 < o0.size ∨ 1000 < o1.size
  · exact back_long k v o0 o1 w hk hv h0 h1 h
  · by_cases hb : 16 < k.size ∨ 24 < v.size
    · exact back_no k v o0 o1 w (by omega) (by omega) (by omega) (by omega) hb
    · by_cases ho : 16 < o0.size ∨ 24 < o1.size
      · exact back_yes k v o0 o1 w (by omega) (by omega) (by omega) (by omega) [] false _ _ (fun w => (words_no o0 o1 w h0 h1 ho).mono fun _ _ => may_no) rfl rfl (fun e => nomatch e)
      · have n0 : (Bx.box k.data.toList v.data.toList).length ≤ 1000000 := by rw [Bx.box_len, ba_len, ba_len]; unfold Pk.cnt; omega
        have n1 : (Bx.box o0.data.toList o1.data.toList).length ≤ 1000000 := by rw [Bx.box_len, ba_len, ba_len]; unfold Pk.cnt; omega
        exact back_yes k v o0 o1 w (by omega) (by omega) (by omega) (by omega) (Bx.box o0.data.toList o1.data.toList) true _ _ (fun w => (words_yes o0 o1 w (by omega) (by omega)).mono fun _ _ => may_yes) rfl rfl
          (fun _ w A A' c c' ha hb => words_eq _ _ A A' c c' w n0 n1 ha hb _ (list_both k v o0 o1 (by omega) (by omega) (by omega) (by omega)))
section
open Go.ChangeShapes Go.WideShapes Go.WideMaps
variable {H : Type} {enc : TypeId × Value → H} {P : Program} {k e : TypeId} {W : World} {base : Nat} {sp : Nat → Bool} {held : Bool}
theorem open_texts (A : ArrKey P k e 2) (he : P.underlying e = some .string) {r : Reach} {b0 : Nat} {v : Value} {d : DataW H} {ps : List MemPlace} (hval : Value.okWide P W r b0 k v) (hd : DataW.Trod enc P W base sp held k v d ps) :
    ∃ a b : ByteArray, v = .agg #[.string a, .string b] ∧ a.size ≤ maxLen ∧ b.size ≤ maxLen := by
  obtain ⟨c0, c1, rfl⟩ := okWide_pair A hval
  obtain ⟨fuel, hf⟩ := hd
  cases fuel with
  | zero => simp [DataW.trod] at hf
  | succ n =>
    rw [DataW.trod_step] at hf
    unfold DataW.trodStep at hf
    simp only [A.hu, Value.cells] at hf
    rw [if_pos (by rw [A.size]; rfl)] at hf
    simp only [Option.map_eq_some_iff] at hf
    obtain ⟨xs, hx, e1⟩ := hf
    rw [show List.range 2 = [0, 1] from rfl, List.mapM_cons, List.mapM_cons, List.mapM_nil] at hx
    simp only [bind, Option.bind_eq_some_iff, pure, Option.some.injEq, A.one] at hx
    obtain ⟨y0, h0, _, ⟨y1, h1, _, rfl, rfl⟩, rfl⟩ := hx
    obtain ⟨a, ea, -, wa⟩ := DataW.trod_string he h0
    obtain ⟨b, eb, -, wb⟩ := DataW.trod_string he h1
    simp at ea eb
    subst ea; subst eb
    exact ⟨a, b, rfl, wa, wb⟩
end
end Go.Proofs.Ytofbhgghboffbaa
