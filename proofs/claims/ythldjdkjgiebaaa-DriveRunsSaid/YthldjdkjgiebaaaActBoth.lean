/-
  An act of the program's and of the document's: the same answer, the same memory. By an AI agent.
-/
import Derived.Test.YthldjdkjgiebaaaActDo
import Derived.Test.YthldjdkjgiebaaaArenaNew
set_option linter.unusedSimpArgs false
set_option linter.unusedVariables false
namespace Go.Proofs.Ythldjdkjgiebaaa
open Go.RowKit Go.Maps
open Mm (Mem Blk)
open Ac (A)
theorem touch (S : Mem) (b : Nat) (i : Int) : (∃ (ws : List Int) (n : Nat) (y : Int), Mm.get S.L b = some ws ∧ i = (n : Int) ∧ ws[n]? = some y) ∨ Mm.wrong S b i ≠ 0 := by
  unfold Mm.wrong
  cases hg : Mm.get S.L b with
  | none => exact .inr (by simp)
  | some ws =>
    by_cases hi : 0 ≤ i ∧ i < ws.length
    · obtain ⟨n, rfl⟩ := Int.eq_ofNat_of_zero_le hi.1
      have hn : n < ws.length := by omega
      exact .inl ⟨ws, n, ws[n], rfl, rfl, List.getElem?_eq_getElem hn⟩
    · exact .inr (by simp; omega)
/-- What an act does to a memory: nothing, a fault, one cell, one block more, one block less. -/
inductive Did (x : A) (S : Mem) : Mem → Prop
  | no : Did x S S
  | fault (hr : Ac.right x = true) (h0 : x.k ≠ 0) (h5 : x.k ≠ 5) : Did x S S.fault
  | put (ws : List Int) (n : Nat) (y : Int) (hr : Ac.right x = true) (hk : Ac.fn x.k = true) (hg : Mm.get S.L x.b = some ws) (hn : n < ws.length) : Did x S (S.put x.b n y)
  | alloc (n : Nat) (hr : Ac.right x = true) (hk : x.k = 5) : Did x S (S.alloc n)
  | free (ws : List Int) (hr : Ac.right x = true) (hk : x.k = 6) (hg : Mm.get S.L x.b = some ws) : Did x S (S.free x.b)
def DoesIt (S : Mem) (x : A) (v : Int) (S' : Mem) : Prop := ∀ (B : Nat) (w : World) (p : Nat) (F : Nat → Prop), Ax B w p S F → B ≤ w.heap.size →
  Calls Try.prog 37 #[.pointer (some ⟨p, 0, none⟩), av x] w (Turns (.int .u64 v) B p S' F w)
def MustIt (S : Mem) (x : A) (v : Int) (S' : Mem) : Prop := ∀ (B : Nat) (w : World) (p : Nat) (G : Nat → Prop), Rx B w p S G → B ≤ w.heap.size →
  Calls Try.prog 22 #[.pointer (some ⟨p, 0, none⟩), av x] w (RTurns (.int .u64 v) B p S' G w)
/-- What is behind a call, seen from ahead of the box. -/
def After (B p : Nat) (S' : Mem) (F : Nat → Prop) (w w' : World) : Prop := ∃ F', Ax B w' p S' F' ∧ Tn F F' w w'
def RAfter (B p : Nat) (S' : Mem) (F : Nat → Prop) (w w' : World) : Prop := ∃ F', Rx B w' p S' F' ∧ Tn F F' w w'
section
variable {B p : Nat} {S S' : Mem} {F : Nat → Prop} {w w1 w' : World} {f : FuncId} {args : Array Value} {v : Value} {x : A}
theorem of_turns (hb : Below w.heap.size w w1) (h : Calls Try.prog f args w1 (Turns v B p S' F w1)) : Calls Try.prog f args w1 fun e w' => e = .returned v ∧ After B p S' F w w' :=
  h.mono fun _ _ ⟨he, F', ha, ht⟩ => ⟨he, F', ha, (Tn.of_below hb).trans ht⟩
theorem of_same (hb : Below w.heap.size w w1) (ha : Ax B w1 p S F) (h : Calls Try.prog f args w1 (Same v w1)) : Calls Try.prog f args w1 fun e w' => e = .returned v ∧ After B p S F w w' :=
  h.mono fun _ _ ⟨he, hw⟩ => ⟨he, F, hw ▸ ha, hw ▸ Tn.of_below hb⟩
theorem of_gives (hb : Below w.heap.size w w1) (ha : Ax B w1 p S F) (h : Calls Try.prog f args w1 (Gives v w1)) : Calls Try.prog f args w1 fun e w' => e = .returned v ∧ After B p S F w w' :=
  h.mono fun _ _ ⟨he, hw⟩ => ⟨he, F, ha.below hw (Nat.le_refl _), (Tn.of_below hb).trans (Tn.of_below hw)⟩
theorem boxed_then (hb : Below (boxed w x).heap.size (boxed w x) w1) : Below w.heap.size w w1 := (boxed_below w x).trans (hb.mono (boxed_below w x).size)
theorem boxed_lt (hb : Below (boxed w x).heap.size (boxed w x) w1) : w.heap.size < w1.heap.size := by
  have := hb.size; simp at this; omega
theorem of_rturns (hb : Below (boxed w x).heap.size (boxed w x) w1) (hr : Rx B w p S F) (h : Calls Try.prog f args w1 (RTurns v B p S' F w1)) : Calls Try.prog f args w1 fun e w' => e = .returned v ∧ w'.heap[w.heap.size]? = w1.heap[w.heap.size]? ∧ RAfter B p S' F w w' :=
  h.mono fun _ _ ⟨he, F', ha, ht⟩ => ⟨he, ht.block _ (boxed_lt hb) (fun hk => Nat.lt_irrefl _ (hr.foot hk).2), F', ha, (Tn.of_below (boxed_then hb)).trans ht⟩
theorem of_rgives (hb : Below (boxed w x).heap.size (boxed w x) w1) (hr : Rx B w p S F) (h : Calls Try.prog f args w1 (Gives v w1)) : Calls Try.prog f args w1 fun e w' => e = .returned v ∧ w'.heap[w.heap.size]? = w1.heap[w.heap.size]? ∧ RAfter B p S F w w' :=
  h.mono fun _ _ ⟨he, hw⟩ => ⟨he, hw.block _ (boxed_lt hb), F, (hr.below (boxed_then hb) (Nat.le_refl _)).below hw (Nat.le_refl _), (Tn.of_below (boxed_then hb)).trans (Tn.of_below hw)⟩
theorem no_step (hb : Below w.heap.size w w1) (ha : Ax B w p S F) : After B p S F w w1 := ⟨F, ha.below hb (Nat.le_refl _), Tn.of_below hb⟩
theorem no_rstep (hb : Below w.heap.size w w1) (ha : Rx B w p S F) : RAfter B p S F w w1 := ⟨F, ha.below hb (Nat.le_refl _), Tn.of_below hb⟩
theorem ax_at (hb : Below w.heap.size w w1) (ha : Ax B w p S F) : Ax B w1 p S F := ha.below hb (Nat.le_refl _)
theorem rx_at (hb : Below (boxed w x).heap.size (boxed w x) w1) (ha : Rx B w p S F) : Rx B w1 p S F := ha.below (boxed_then hb) (Nat.le_refl _)
end
theorem act_both (S : Mem) (x : A) (hG : Mm.Good S) (hb : x.b < 18446744073709551616) (h1 : x.c ≤ 9223372036854775807) (hf : S.faults ≤ 1000000000) (hl : S.last ≤ 1000000000) :
    ∃ (v : Int) (S' : Mem), S'.room = S.room ∧ S'.faults ≤ S.faults + 1 ∧ S'.last ≤ S.last + 1 ∧ Did x S S' ∧ DoesIt S x v S' ∧ MustIt S x v S' := by
  have hf' : S.faults ≤ 1000000000000 := by omega
  have hl' : S.last ≤ 1000000000000 := by omega
  unfold DoesIt MustIt
  cases hr : Ac.right x with
  | false =>
    obtain ⟨k, b, c, o, n⟩ := x
    exact ⟨0, S, rfl, Nat.le_succ _, Nat.le_succ _, .no, fun B w p F h hB => dstepk _ k b c o n 0 0 w _ h1 hr fun w1 hw1 => no_step hw1 h,
      fun B w p F h hB => mstepk _ k b c o n 0 0 w _ h1 hr fun w1 hw1 => no_rstep hw1 h⟩
  | true =>
    have hk : Ac.known x.k = true := by
      unfold Ac.right at hr; revert hr; cases Ac.known x.k <;> simp
    have hd : ∀ {S'}, (Ac.right x = true → Did x S S') → Did x S S' := fun h => h hr
    obtain ⟨k, b, i, o, n⟩ := x
    dsimp only at hb h1 hk
    rcases Ac.kinds hk with rfl | rfl | rfl | rfl | rfl | rfl | rfl
    · exact ⟨0, S, rfl, Nat.le_succ _, Nat.le_succ _, .no, fun B w p F h hB => dstep0 _ b i o n 0 0 w _ h1 hr fun w1 hw1 => no_step hw1 h,
        fun B w p F h hB => mstep0 _ b i o n 0 0 w _ h1 hr fun w1 hw1 => no_rstep hw1 h⟩
    · rcases touch S b i with ⟨ws, j, y, hg, rfl, hx⟩ | hw
      · exact ⟨y, S, rfl, Nat.le_succ _, Nat.le_succ _, .no, fun B w p F h hB => dstep1 _ b _ o n y 0 w _ h1 hr fun w1 hw1 => of_same hw1 (ax_at hw1 h) (load_ok (ax_at hw1 h) hb hg j hx),
          fun B w p F h hB => mstep1 _ b _ o n y 0 w _ h1 hr fun w1 hw1 => of_rgives hw1 h (rload_ok (rx_at hw1 h) hg j hx)⟩
      · exact ⟨0, S.fault, rfl, Nat.le_refl _, Nat.le_succ _, .fault hr (by simp) (by simp), fun B w p F h hB => dstep1 _ b _ o n 0 _ w _ h1 hr fun w1 hw1 => of_turns hw1 (load_bad (ax_at hw1 h) hb i hw hf'),
          fun B w p F h hB => mstep1 _ b _ o n 0 _ w _ h1 hr fun w1 hw1 => of_rturns hw1 h (rload_bad (rx_at hw1 h) i hw hf')⟩
    · rcases touch S b i with ⟨ws, j, y, hg, rfl, hx⟩ | hw
      · have hn := (List.getElem?_eq_some_iff.1 hx).1
        exact ⟨0, S.put b j (n : Int), rfl, Nat.le_succ _, Nat.le_succ _, .put ws j _ hr rfl hg hn, fun B w p F h hB => dstep2 _ b _ o n 0 0 w _ h1 hr fun w1 hw1 => of_turns hw1 (store_ok (ax_at hw1 h) hb hg j hn (n : Int)),
          fun B w p F h hB => mstep2 _ b _ o n 0 0 w _ h1 hr fun w1 hw1 => of_rturns hw1 h (rstore_ok (rx_at hw1 h) hg j hn (n : Int))⟩
      · exact ⟨0, S.fault, rfl, Nat.le_refl _, Nat.le_succ _, .fault hr (by simp) (by simp), fun B w p F h hB => dstep2 _ b _ o n 0 _ w _ h1 hr fun w1 hw1 => of_turns hw1 (store_bad (ax_at hw1 h) hb i hw hf' (n : Int)),
          fun B w p F h hB => mstep2 _ b _ o n 0 _ w _ h1 hr fun w1 hw1 => of_rturns hw1 h (rstore_bad (rx_at hw1 h) i hw hf' (n : Int))⟩
    · rcases touch S b i with ⟨ws, j, y, hg, rfl, hx⟩ | hw
      · have hn := (List.getElem?_eq_some_iff.1 hx).1
        by_cases ho : y = (o : Int)
        · subst ho
          exact ⟨(o : Int), S.put b j (n : Int), rfl, Nat.le_succ _, Nat.le_succ _, .put ws j _ hr rfl hg hn, fun B w p F h hB => dstep3 _ b _ o n _ 0 w _ h1 hr fun w1 hw1 => of_turns hw1 (cas_yes (ax_at hw1 h) hb hg j hx (n : Int)),
            fun B w p F h hB => mstep3 _ b _ o n _ 0 w _ h1 hr fun w1 hw1 => of_rturns hw1 h (rcas_yes (rx_at hw1 h) hg j hx (n : Int))⟩
        · exact ⟨y, S, rfl, Nat.le_succ _, Nat.le_succ _, .no, fun B w p F h hB => dstep3 _ b _ o n _ 0 w _ h1 hr fun w1 hw1 => of_same hw1 (ax_at hw1 h) (cas_no (ax_at hw1 h) hb hg j hx (o : Int) (n : Int) ho),
            fun B w p F h hB => mstep3 _ b _ o n _ 0 w _ h1 hr fun w1 hw1 => of_rgives hw1 h (rcas_no (rx_at hw1 h) hg j hx (o : Int) (n : Int) ho)⟩
      · exact ⟨0, S.fault, rfl, Nat.le_refl _, Nat.le_succ _, .fault hr (by simp) (by simp), fun B w p F h hB => dstep3 _ b _ o n 0 _ w _ h1 hr fun w1 hw1 => of_turns hw1 (cas_bad (ax_at hw1 h) hb i hw hf' (o : Int) (n : Int)),
          fun B w p F h hB => mstep3 _ b _ o n 0 _ w _ h1 hr fun w1 hw1 => of_rturns hw1 h (rcas_bad (rx_at hw1 h) i hw hf' (o : Int) (n : Int))⟩
    · rcases touch S b i with ⟨ws, j, y, hg, rfl, hx⟩ | hw
      · have hn := (List.getElem?_eq_some_iff.1 hx).1
        exact ⟨y, S.put b j (IntKind.u64.wrap (y + (n : Int))), rfl, Nat.le_succ _, Nat.le_succ _, .put ws j _ hr rfl hg hn, fun B w p F h hB => dstep4 _ b _ o n _ 0 w _ h1 hr fun w1 hw1 => of_turns hw1 (add_ok (ax_at hw1 h) hb hg j hx (n : Int)),
          fun B w p F h hB => mstep4 _ b _ o n _ 0 w _ h1 hr fun w1 hw1 => of_rturns hw1 h (radd_ok (rx_at hw1 h) hg j hx (n : Int))⟩
      · exact ⟨0, S.fault, rfl, Nat.le_refl _, Nat.le_succ _, .fault hr (by simp) (by simp), fun B w p F h hB => dstep4 _ b _ o n 0 _ w _ h1 hr fun w1 hw1 => of_turns hw1 (add_bad (ax_at hw1 h) hb i hw hf' (n : Int)),
          fun B w p F h hB => mstep4 _ b _ o n 0 _ w _ h1 hr fun w1 hw1 => of_rturns hw1 h (radd_bad (rx_at hw1 h) i hw hf' (n : Int))⟩
    · by_cases hn : i < 1 ∨ (S.room : Int) - (Mm.used S.L : Int) < i
      · exact ⟨0, S, rfl, Nat.le_succ _, Nat.le_succ _, .no, fun B w p F h hB => dstep5 _ b _ o n 0 0 w _ h1 hr fun w1 hw1 => of_gives hw1 (ax_at hw1 h) (alloc_no (ax_at hw1 h) i hn),
          fun B w p F h hB => mstep5 _ b _ o n 0 0 w _ h1 hr fun w1 hw1 => of_rgives hw1 h (ralloc_no (rx_at hw1 h) i hn)⟩
      · have hfit := hG.fits
        obtain ⟨j, rfl⟩ : ∃ j : Nat, i = (j : Int) := ⟨i.toNat, by omega⟩
        exact ⟨(S.last : Int) + 1, S.alloc j, rfl, Nat.le_succ _, Nat.le_refl _, .alloc j hr rfl, fun B w p F h hB => dstep5 _ b _ o n _ 0 w _ h1 hr fun w1 hw1 => of_turns hw1 (alloc_ok (ax_at hw1 h) (Nat.le_trans hB hw1.size) j (by omega) (by omega) hl'),
          fun B w p F h hB => mstep5 _ b _ o n _ 0 w _ h1 hr fun w1 hw1 => of_rturns hw1 h (ralloc_ok (rx_at hw1 h) (Nat.le_trans hB (boxed_then hw1).size) j (by omega) (by omega) hl')⟩
    · cases hg : Mm.get S.L b with
      | some ws => exact ⟨0, S.free b, rfl, Nat.le_succ _, Nat.le_succ _, .free ws hr rfl hg, fun B w p F h hB => dstep6 _ b _ o n 0 0 w _ h1 hr fun w1 hw1 => of_turns hw1 (free_ok (ax_at hw1 h) hb hg),
          fun B w p F h hB => mstep6 _ b _ o n 0 0 w _ h1 hr fun w1 hw1 => of_rturns hw1 h (rfree_ok (rx_at hw1 h) (Nat.le_trans hB (boxed_then hw1).size) hg)⟩
      | none => exact ⟨0, S.fault, rfl, Nat.le_refl _, Nat.le_succ _, .fault hr (by simp) (by simp), fun B w p F h hB => dstep6 _ b _ o n 0 13 w _ h1 hr fun w1 hw1 => of_turns hw1 (free_bad (ax_at hw1 h) hb hg hf'),
          fun B w p F h hB => mstep6 _ b _ o n 0 13 w _ h1 hr fun w1 hw1 => of_rturns hw1 h (rfree_bad (rx_at hw1 h) hg hf')⟩
end Go.Proofs.Ythldjdkjgiebaaa
