/-
  Acts, one behind the other. An act of the program's and of the document's: the same answer, the same memory. By an AI agent.
-/
import Derived.Test.YthldjdkjgiebaaaActBoth
set_option linter.unusedSimpArgs false
set_option linter.unusedVariables false
namespace Go.Proofs.Ythldjdkjgiebaaa
open Go.RowKit Go.Maps
open Mm (Mem Blk)
open Ac (A)
/-- What the numbers of an act are bounded by. -/
structure Fits (x : A) : Prop where
  b : x.b < 18446744073709551616
  c0 : -9223372036854775808 ≤ x.c
  c1 : x.c ≤ 9223372036854775807
  o : x.o < 18446744073709551616
  n : x.n < 18446744073709551616
theorem act_all (S : Mem) (x : A) (hG : Mm.Good S) (hb : x.b < 18446744073709551616) (h1 : x.c ≤ 9223372036854775807) (hf : S.faults ≤ 1000000000) (hl : S.last ≤ 1000000000) :
    ∃ (v : Int) (S' : Mem), Mm.Good S' ∧ S'.room = S.room ∧ S'.faults ≤ S.faults + 1 ∧ S'.last ≤ S.last + 1 ∧ Did x S S' ∧ DoesIt S x v S' ∧ MustIt S x v S' := by
  have hf' : S.faults ≤ 1000000000000 := by omega
  have hl' : S.last ≤ 1000000000000 := by omega
  unfold DoesIt MustIt
  cases hr : Ac.right x with
  | false =>
    obtain ⟨k, b, c, o, n⟩ := x
    exact ⟨0, S, hG, rfl, Nat.le_succ _, Nat.le_succ _, .no, fun B w p F h hB => dstepk _ k b c o n 0 0 w _ h1 hr fun w1 hw1 => no_step hw1 h,
      fun B w p F h hB => mstepk _ k b c o n 0 0 w _ h1 hr fun w1 hw1 => no_rstep hw1 h⟩
  | true =>
    have hk : Ac.known x.k = true := by
      unfold Ac.right at hr; revert hr; cases Ac.known x.k <;> simp
    have hd : ∀ {S'}, (Ac.right x = true → Did x S S') → Did x S S' := fun h => h hr
    obtain ⟨k, b, i, o, n⟩ := x
    dsimp only at hb h1 hk
    rcases Ac.kinds hk with rfl | rfl | rfl | rfl | rfl | rfl | rfl
    · exact ⟨0, S, hG, rfl, Nat.le_succ _, Nat.le_succ _, .no, fun B w p F h hB => dstep0 _ b i o n 0 0 w _ h1 hr fun w1 hw1 => no_step hw1 h,
        fun B w p F h hB => mstep0 _ b i o n 0 0 w _ h1 hr fun w1 hw1 => no_rstep hw1 h⟩
    · rcases touch S b i with ⟨ws, j, y, hg, rfl, hx⟩ | hw
      · exact ⟨y, S, hG, rfl, Nat.le_succ _, Nat.le_succ _, .no, fun B w p F h hB => dstep1 _ b _ o n y 0 w _ h1 hr fun w1 hw1 => of_same hw1 (ax_at hw1 h) (load_ok (ax_at hw1 h) hb hg j hx),
          fun B w p F h hB => mstep1 _ b _ o n y 0 w _ h1 hr fun w1 hw1 => of_rgives hw1 h (rload_ok (rx_at hw1 h) hg j hx)⟩
      · exact ⟨0, S.fault, hG.fault, rfl, Nat.le_refl _, Nat.le_succ _, .fault hr (by simp) (by simp), fun B w p F h hB => dstep1 _ b _ o n 0 _ w _ h1 hr fun w1 hw1 => of_turns hw1 (load_bad (ax_at hw1 h) hb i hw hf'),
          fun B w p F h hB => mstep1 _ b _ o n 0 _ w _ h1 hr fun w1 hw1 => of_rturns hw1 h (rload_bad (rx_at hw1 h) i hw hf')⟩
    · rcases touch S b i with ⟨ws, j, y, hg, rfl, hx⟩ | hw
      · have hn := (List.getElem?_eq_some_iff.1 hx).1
        exact ⟨0, S.put b j (n : Int), hG.put _ _ _, rfl, Nat.le_succ _, Nat.le_succ _, .put ws j _ hr rfl hg hn, fun B w p F h hB => dstep2 _ b _ o n 0 0 w _ h1 hr fun w1 hw1 => of_turns hw1 (store_ok (ax_at hw1 h) hb hg j hn (n : Int)),
          fun B w p F h hB => mstep2 _ b _ o n 0 0 w _ h1 hr fun w1 hw1 => of_rturns hw1 h (rstore_ok (rx_at hw1 h) hg j hn (n : Int))⟩
      · exact ⟨0, S.fault, hG.fault, rfl, Nat.le_refl _, Nat.le_succ _, .fault hr (by simp) (by simp), fun B w p F h hB => dstep2 _ b _ o n 0 _ w _ h1 hr fun w1 hw1 => of_turns hw1 (store_bad (ax_at hw1 h) hb i hw hf' (n : Int)),
          fun B w p F h hB => mstep2 _ b _ o n 0 _ w _ h1 hr fun w1 hw1 => of_rturns hw1 h (rstore_bad (rx_at hw1 h) i hw hf' (n : Int))⟩
    · rcases touch S b i with ⟨ws, j, y, hg, rfl, hx⟩ | hw
      · have hn := (List.getElem?_eq_some_iff.1 hx).1
        by_cases ho : y = (o : Int)
        · subst ho
          exact ⟨(o : Int), S.put b j (n : Int), hG.put _ _ _, rfl, Nat.le_succ _, Nat.le_succ _, .put ws j _ hr rfl hg hn, fun B w p F h hB => dstep3 _ b _ o n _ 0 w _ h1 hr fun w1 hw1 => of_turns hw1 (cas_yes (ax_at hw1 h) hb hg j hx (n : Int)),
            fun B w p F h hB => mstep3 _ b _ o n _ 0 w _ h1 hr fun w1 hw1 => of_rturns hw1 h (rcas_yes (rx_at hw1 h) hg j hx (n : Int))⟩
        · exact ⟨y, S, hG, rfl, Nat.le_succ _, Nat.le_succ _, .no, fun B w p F h hB => dstep3 _ b _ o n _ 0 w _ h1 hr fun w1 hw1 => of_same hw1 (ax_at hw1 h) (cas_no (ax_at hw1 h) hb hg j hx (o : Int) (n : Int) ho),
            fun B w p F h hB => mstep3 _ b _ o n _ 0 w _ h1 hr fun w1 hw1 => of_rgives hw1 h (rcas_no (rx_at hw1 h) hg j hx (o : Int) (n : Int) ho)⟩
      · exact ⟨0, S.fault, hG.fault, rfl, Nat.le_refl _, Nat.le_succ _, .fault hr (by simp) (by simp), fun B w p F h hB => dstep3 _ b _ o n 0 _ w _ h1 hr fun w1 hw1 => of_turns hw1 (cas_bad (ax_at hw1 h) hb i hw hf' (o : Int) (n : Int)),
          fun B w p F h hB => mstep3 _ b _ o n 0 _ w _ h1 hr fun w1 hw1 => of_rturns hw1 h (rcas_bad (rx_at hw1 h) i hw hf' (o : Int) (n : Int))⟩
    · rcases touch S b i with ⟨ws, j, y, hg, rfl, hx⟩ | hw
      · have hn := (List.getElem?_eq_some_iff.1 hx).1
        exact ⟨y, S.put b j (IntKind.u64.wrap (y + (n : Int))), hG.put _ _ _, rfl, Nat.le_succ _, Nat.le_succ _, .put ws j _ hr rfl hg hn, fun B w p F h hB => dstep4 _ b _ o n _ 0 w _ h1 hr fun w1 hw1 => of_turns hw1 (add_ok (ax_at hw1 h) hb hg j hx (n : Int)),
          fun B w p F h hB => mstep4 _ b _ o n _ 0 w _ h1 hr fun w1 hw1 => of_rturns hw1 h (radd_ok (rx_at hw1 h) hg j hx (n : Int))⟩
      · exact ⟨0, S.fault, hG.fault, rfl, Nat.le_refl _, Nat.le_succ _, .fault hr (by simp) (by simp), fun B w p F h hB => dstep4 _ b _ o n 0 _ w _ h1 hr fun w1 hw1 => of_turns hw1 (add_bad (ax_at hw1 h) hb i hw hf' (n : Int)),
          fun B w p F h hB => mstep4 _ b _ o n 0 _ w _ h1 hr fun w1 hw1 => of_rturns hw1 h (radd_bad (rx_at hw1 h) i hw hf' (n : Int))⟩
    · by_cases hn : i < 1 ∨ (S.room : Int) - (Mm.used S.L : Int) < i
      · exact ⟨0, S, hG, rfl, Nat.le_succ _, Nat.le_succ _, .no, fun B w p F h hB => dstep5 _ b _ o n 0 0 w _ h1 hr fun w1 hw1 => of_gives hw1 (ax_at hw1 h) (alloc_no (ax_at hw1 h) i hn),
          fun B w p F h hB => mstep5 _ b _ o n 0 0 w _ h1 hr fun w1 hw1 => of_rgives hw1 h (ralloc_no (rx_at hw1 h) i hn)⟩
      · have hfit := hG.fits
        obtain ⟨j, rfl⟩ : ∃ j : Nat, i = (j : Int) := ⟨i.toNat, by omega⟩
        exact ⟨(S.last : Int) + 1, S.alloc j, hG.alloc (by omega) (by omega), rfl, Nat.le_succ _, Nat.le_refl _, .alloc j hr rfl, fun B w p F h hB => dstep5 _ b _ o n _ 0 w _ h1 hr fun w1 hw1 => of_turns hw1 (alloc_ok (ax_at hw1 h) (Nat.le_trans hB hw1.size) j (by omega) (by omega) hl'),
          fun B w p F h hB => mstep5 _ b _ o n _ 0 w _ h1 hr fun w1 hw1 => of_rturns hw1 h (ralloc_ok (rx_at hw1 h) (Nat.le_trans hB (boxed_then hw1).size) j (by omega) (by omega) hl')⟩
    · cases hg : Mm.get S.L b with
      | some ws => exact ⟨0, S.free b, hG.free hg, rfl, Nat.le_succ _, Nat.le_succ _, .free ws hr rfl hg, fun B w p F h hB => dstep6 _ b _ o n 0 0 w _ h1 hr fun w1 hw1 => of_turns hw1 (free_ok (ax_at hw1 h) hb hg),
          fun B w p F h hB => mstep6 _ b _ o n 0 0 w _ h1 hr fun w1 hw1 => of_rturns hw1 h (rfree_ok (rx_at hw1 h) (Nat.le_trans hB (boxed_then hw1).size) hg)⟩
      | none => exact ⟨0, S.fault, hG.fault, rfl, Nat.le_refl _, Nat.le_succ _, .fault hr (by simp) (by simp), fun B w p F h hB => dstep6 _ b _ o n 0 13 w _ h1 hr fun w1 hw1 => of_turns hw1 (free_bad (ax_at hw1 h) hb hg hf'),
          fun B w p F h hB => mstep6 _ b _ o n 0 13 w _ h1 hr fun w1 hw1 => of_rturns hw1 h (rfree_bad (rx_at hw1 h) hg hf')⟩
/-- What an act comes to: its answer, and the memory behind it. -/
structure Nx (S : Mem) (x : A) (v : Int) (S' : Mem) : Prop where
  good : Mm.Good S'
  room : S'.room = S.room
  faults : S'.faults ≤ S.faults + 1
  last : S'.last ≤ S.last + 1
  does : DoesIt S x v S'
  must : MustIt S x v S'
theorem alloc_nx {S : Mem} (hG : Mm.Good S) (b o n : Nat) (i : Int) (hr : Ac.right ⟨5, b, i, o, n⟩ = true) (h1 : 1 ≤ i) (h2 : i ≤ (S.room : Int) - (Mm.used S.L : Int)) (hl : S.last ≤ 1000000000) : Nx S ⟨5, b, i, o, n⟩ ((S.last : Int) + 1) (S.alloc i.toNat) := by
  have hl' : S.last ≤ 1000000000000 := by omega
  have hfit := hG.fits
  have hr2 := hG.r2
  obtain ⟨j, rfl⟩ : ∃ j : Nat, i = (j : Int) := ⟨i.toNat, by omega⟩
  have h9 : (j : Int) ≤ 9223372036854775807 := by omega
  rw [Int.toNat_natCast]
  exact ⟨hG.alloc (by omega) (by omega), rfl, Nat.le_succ _, Nat.le_refl _, fun B w p F h hB => dstep5 _ b _ o n _ 0 w _ h9 hr fun w1 hw1 => of_turns hw1 (alloc_ok (ax_at hw1 h) (Nat.le_trans hB hw1.size) j (by omega) (by omega) hl'),
    fun B w p F h hB => mstep5 _ b _ o n _ 0 w _ h9 hr fun w1 hw1 => of_rturns hw1 h (ralloc_ok (rx_at hw1 h) (Nat.le_trans hB (boxed_then hw1).size) j (by omega) (by omega) hl')⟩
/-- An act that gives out a block. -/
def Gets (S : Mem) (x : A) : Prop := x.k = 5 ∧ Ac.right x = true ∧ 1 ≤ x.c ∧ x.c ≤ (S.room : Int) - (Mm.used S.L : Int)
open Classical in
noncomputable def nxv (S : Mem) (x : A) : Int × Mem := if Gets S x then ((S.last : Int) + 1, S.alloc x.c.toNat) else if h : ∃ p : Int × Mem, Nx S x p.1 p.2 then Classical.choose h else (0, S)
theorem nxv_gets {S : Mem} {x : A} (h : Gets S x) : nxv S x = ((S.last : Int) + 1, S.alloc x.c.toNat) := by unfold nxv; rw [if_pos h]
theorem nx_of {S : Mem} {x : A} (hG : Mm.Good S) (hx : Fits x) (hf : S.faults ≤ 1000000000) (hl : S.last ≤ 1000000000) : Nx S x (nxv S x).1 (nxv S x).2 := by
  by_cases hg : Gets S x
  · rw [nxv_gets hg]
    obtain ⟨k, b, i, o, n⟩ := x
    obtain ⟨h5, hr, h1, h2⟩ := hg
    dsimp only at h5 h1 h2
    subst h5
    exact alloc_nx hG b o n i hr h1 h2 hl
  have h : ∃ p : Int × Mem, Nx S x p.1 p.2 := by
    obtain ⟨v, S', h1, h2, h3, h4, -, h5, h6⟩ := act_all S x hG hx.b hx.c1 hf hl
    exact ⟨(v, S'), h1, h2, h3, h4, h5, h6⟩
  unfold nxv
  rw [if_neg hg, dif_pos h]
  exact Classical.choose_spec h
/-- A memory that few acts have come to. -/
structure Mid (S : Mem) (k : Nat) : Prop where
  good : Mm.Good S
  faults : S.faults ≤ k
  last : S.last ≤ k
theorem Mid.nx {S : Mem} {k : Nat} (h : Mid S k) (hk : k ≤ 1000000) {x : A} (hx : Fits x) : Nx S x (nxv S x).1 (nxv S x).2 := nx_of h.good hx (by have := h.faults; omega) (by have := h.last; omega)
theorem Mid.next {S : Mem} {k : Nat} (h : Mid S k) (hk : k ≤ 1000000) {x : A} (hx : Fits x) : Mid (nxv S x).2 (k + 1) := by
  have n := h.nx hk hx
  exact ⟨n.good, by have := n.faults; have := h.faults; omega, by have := n.last; have := h.last; omega⟩
theorem Mid.mono {S : Mem} {k m : Nat} (h : Mid S k) (hk : k ≤ m) : Mid S m := ⟨h.good, Nat.le_trans h.faults hk, Nat.le_trans h.last hk⟩
end Go.Proofs.Ythldjdkjgiebaaa
