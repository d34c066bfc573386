/-
  A call that answers a new list; a row that grows in a box. By an AI agent.
-/
import Derived.Test.YtigopifioijjlaaDictIter
import Derived.Maps.OwnIn
namespace Go.Proofs.Ytigopifioijjlaa
open Go.RowKit Go.Shelf
open Dc (Pr)
attribute [local go_sem] Oper.semAt_some
theorem func_nil (f : Nat) (cap : Array Value) (w : World) : (binOp .eql 69 (.func (.func f) #[] cap) .nilFunc).run Try.prog w = .ok (.bool false) w := by
  first | rfl | kernel_rfl | simp [binOp, go_sem]
theorem info_api : (Try.prog.info? 46).map (fun i => (i.zero, i.size, i.bytes)) = some (some (.agg #[.string ⟨#[]⟩, .string ⟨#[]⟩]), 2, 32) := by kernel_rfl
/-- A call answers a new list. -/
def Tells (l : List Pr) (w : World) (e : Ending) (w' : World) : Prop := ∃ v, e = .returned v ∧ Row w.heap.size 46 w' v l ∧ Below w.heap.size w w'
theorem Kp.appended {W w1 : World} {b : Nat} {t : TypeId} {v v' : Value} {tmp : Obj} (hv : Boxed W b t v) (hgrow : (W.alloc tmp).grownBy w1 v.ownBlock) (hat : v'.ownBlock = v.ownBlock ∨ v'.ownBlock = some (W.alloc tmp).heap.size) (hv2 : Boxed (w1.setCell ⟨b, 0, none⟩ v') b t v') :
    Kp b 0 W (w1.setCell ⟨b, 0, none⟩ v') := by
  have e1 : fp b 0 W = v.ownBlock := by unfold fp; rw [hv.cell]; rfl
  have e2 : fp b 0 (w1.setCell ⟨b, 0, none⟩ v') = v'.ownBlock := by unfold fp; rw [hv2.cell]; rfl
  have hsz : W.heap.size ≤ (w1.setCell ⟨b, 0, none⟩ v').heap.size := by
    have := hgrow.size
    simp [World.setCell] at this ⊢; omega
  refine ⟨hsz, fun k c t' hk hb hf => ?_, fun k hk => ?_⟩
  · have hlt := (Array.getElem?_eq_some_iff.1 hk).1
    rw [Below.heap_setCell _ _ _ k hb, hgrow.block k (by simp; omega) (fun e => hf (by rw [e1, ← e])), Below.heap_alloc _ _ _ hlt]
  · rw [e2] at hk
    rcases hat with h | h
    · exact .inl (by rw [e1, ← h, hk])
    · rw [h] at hk; cases hk; simp
theorem cell_two_new (W : World) (a b : Value) (t : TypeId) : ∀ j u, [a, b][j]? = some u → (W.alloc (.cells #[a, b] t)).cell? ((⟨W.heap.size, 0, none⟩ : Addr).add j) = some u := by
  have : (W.alloc (.cells #[a, b] t)).heap[W.heap.size]? = some (.cells ([] ++ [a, b] ++ []).toArray t (0, 0)) := heap_alloc_new W _
  exact cells_at this rfl
end Go.Proofs.Ytigopifioijjlaa
