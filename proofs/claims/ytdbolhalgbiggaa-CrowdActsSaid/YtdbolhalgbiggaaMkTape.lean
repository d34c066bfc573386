/-
  The walks of a tape's Do, Alloc and Store: the document's acts. By an AI agent.
-/
import Derived.Test.YtdbolhalgbiggaaMkTake2
import Derived.Test.YtdbolhalgbiggaaMkMath
import Derived.Test.YtdbolhalgbiggaaPackParts
set_option linter.unusedSimpArgs false
set_option linter.unusedVariables false
namespace Go.Proofs.Ytdbolhalgbiggaa
open Go.RowKit Go.Maps
open Ac (A)
/-- A tape as a block: its answers, how many were read, whether it is over, and the act there. -/
def Tp (w : World) (t : Nat) (ad : Option Addr) (m c k : Nat) (o : Bool) (x : A) : Prop := w.heap[t]? = some (.cells #[.slice ad m c, .int .i64 (k : Int), .bool o, .int .i64 x.k, .int .u64 x.b, .int .i64 x.c, .int .u64 x.o, .int .u64 x.n] 40 (0, 0))
section
variable {w w' : World} {t m c k : Nat} {ad : Option Addr} {o : Bool} {x : A}
theorem Tp.lt (h : Tp w t ad m c k o x) : t < w.heap.size := (Array.getElem?_eq_some_iff.1 h).1
theorem Tp.keep (h : Tp w t ad m c k o x) (e : w'.heap[t]? = w.heap[t]?) : Tp w' t ad m c k o x := e.trans h
theorem Tp.below (h : Tp w t ad m c k o x) (hb : Below w.heap.size w w') : Tp w' t ad m c k o x := h.keep (hb.block t h.lt)
theorem Tp.fz (h : Tp w t ad m c k o x) (i : Nat) : w.frozen? ⟨t, i, none⟩ = false := by simp [World.frozen?, show w.heap[t]? = _ from h]
theorem Tp.c0 (h : Tp w t ad m c k o x) : w.cell? ⟨t, 0, none⟩ = some (.slice ad m c) := by simp [World.cell?, show w.heap[t]? = _ from h]
theorem Tp.c1 (h : Tp w t ad m c k o x) : w.cell? ⟨t, 1, none⟩ = some (.int .i64 (k : Int)) := by simp [World.cell?, show w.heap[t]? = _ from h]
theorem Tp.c2 (h : Tp w t ad m c k o x) : w.cell? ⟨t, 2, none⟩ = some (.bool o) := by simp [World.cell?, show w.heap[t]? = _ from h]
theorem Tp.c3 (h : Tp w t ad m c k o x) : w.cell? ⟨t, 3, none⟩ = some (.int .i64 x.k) := by simp [World.cell?, show w.heap[t]? = _ from h]
theorem Tp.c4 (h : Tp w t ad m c k o x) : w.cell? ⟨t, 4, none⟩ = some (.int .u64 (x.b : Int)) := by simp [World.cell?, show w.heap[t]? = _ from h]
theorem Tp.c5 (h : Tp w t ad m c k o x) : w.cell? ⟨t, 5, none⟩ = some (.int .i64 x.c) := by simp [World.cell?, show w.heap[t]? = _ from h]
theorem Tp.c6 (h : Tp w t ad m c k o x) : w.cell? ⟨t, 6, none⟩ = some (.int .u64 (x.o : Int)) := by simp [World.cell?, show w.heap[t]? = _ from h]
theorem Tp.c7 (h : Tp w t ad m c k o x) : w.cell? ⟨t, 7, none⟩ = some (.int .u64 (x.n : Int)) := by simp [World.cell?, show w.heap[t]? = _ from h]
theorem Tp.drew (h : Tp w t ad m c k o x) : Tp w.drew t ad m c k o x := h
/-- One more is read. -/
theorem Tp.seen (h : Tp w t ad m c k o x) : Tp (w.setCell ⟨t, 1, none⟩ (.int .i64 ((k : Int) + 1))) t ad m c (k + 1) o x := by
  unfold Tp at h ⊢
  rw [heap_setc h _ _]
  simp
/-- It is over: the act. -/
theorem Tp.ended (h : Tp w t ad m c k o x) (y : A) : Tp ((((((w.setCell ⟨t, 2, none⟩ (.bool true)).setCell ⟨t, 3, none⟩ (.int .i64 y.k)).setCell ⟨t, 4, none⟩ (.int .u64 (y.b : Int))).setCell ⟨t, 5, none⟩ (.int .i64 y.c)).setCell ⟨t, 6, none⟩ (.int .u64 (y.o : Int))).setCell ⟨t, 7, none⟩ (.int .u64 (y.n : Int))) t ad m c k true y := by
  unfold Tp at h ⊢
  rw [heap_setc (heap_setc (heap_setc (heap_setc (heap_setc (heap_setc h _ _) _ _) _ _) _ _) _ _) _ _]
  simp
end
theorem Chg.six {q : Nat} {w w' : World} (h : Chg q w w') (hq : q < w'.heap.size) (v2 v3 v4 v5 v6 v7 : Value) : Chg q w ((((((w'.setCell ⟨q, 2, none⟩ v2).setCell ⟨q, 3, none⟩ v3).setCell ⟨q, 4, none⟩ v4).setCell ⟨q, 5, none⟩ v5).setCell ⟨q, 6, none⟩ v6).setCell ⟨q, 7, none⟩ v7) := by
  refine (((((h.set 2 _ hq).set 3 _ ?_).set 4 _ ?_).set 5 _ ?_).set 6 _ ?_).set 7 _ ?_ <;> simpa [World.setCell] using hq
set_option maxRecDepth 100000 in
set_option maxHeartbeats 4000000 in
theorem tdo_over (w : World) (t m c k : Nat) (ad : Option Addr) (x0 x : A) (h : Tp w t ad m c k true x0) : Calls Try.prog 40 #[.pointer (some ⟨t, 0, none⟩), av x] w (Gives (.int .u64 0) w) := by
  obtain ⟨xk, xb, xc, xo, xn⟩ := x
  have hb : ∀ o, Below w.heap.size w (w.alloc o) := fun o => (Below.refl _ w).alloc (Nat.le_refl _) _
  have c2 := fun o => (h.below (hb o)).c2
  have HB := Lib.hid hb; clear hb h
  go_enter Try.func40, Try.ntmps40
  go_wp2
  go_ret
  exact ⟨rfl, HB.out _⟩
set_option maxRecDepth 100000 in
set_option maxHeartbeats 4000000 in
theorem tdo_got (w : World) (t m c k y : Nat) (b off : Nat) (x0 x : A) (h : Tp w t (some ⟨b, off, none⟩) m c k false x0) (hk : k < m) (hm : m ≤ 1000000) (hbt : b ≠ t) (hbl : b < w.heap.size) (hc : w.cell? ⟨b, off + k, none⟩ = some (.int .u64 (y : Int))) :
    Calls Try.prog 40 #[.pointer (some ⟨t, 0, none⟩), av x] w fun e w' => e = .returned (.int .u64 (y : Int)) ∧ Tp w' t (some ⟨b, off, none⟩) m c (k + 1) false x0 ∧ Chg t w w' := by
  obtain ⟨xk, xb, xc, xo, xn⟩ := x
  obtain ⟨W, hW⟩ : ∃ W, W = w.alloc (.cells #[.int .i64 xk, .int .u64 (xb : Int), .int .i64 xc, .int .u64 (xo : Int), .int .u64 (xn : Int)] 30) := ⟨_, rfl⟩
  have hb : Below w.heap.size w W := by rw [hW]; exact (Below.refl _ w).alloc (Nat.le_refl _) _
  have a2 := fun o => (h.below ((Below.refl _ w).alloc (Nat.le_refl _) o)).c2
  have HM := Lib.hid (h.below hb)
  have HC := Lib.hid (show W.cell? ⟨b, off + k, none⟩ = some (.int .u64 (y : Int)) from (hb.cell (p := ⟨b, off + k, none⟩) hbl).trans hc)
  have HX := Lib.hid hbt
  have HB := Lib.hid hb
  have hlt : decide ((k : Int) < (m : Int)) = true := by simp; omega
  clear h hb hbl hc hbt
  go_enter Try.func40, Try.ntmps40
  go_wp2
  rw [← hW]
  clear a2 hW
  have c0 := HM.out.c0
  have c1 := HM.out.c1
  have f1 := HM.out.fz 1
  go_region
  all_goals go_wp2
  all_goals obtain ⟨V, hV⟩ : ∃ V, V = (W.setCell ⟨t, 1, none⟩ (.int .i64 ((k : Int) + 1))).drew := ⟨_, rfl⟩
  all_goals rw [← hV]
  all_goals have HT : Hid (Tp V t (some ⟨b, off, none⟩) m c (k + 1) false x0) := Lib.hid (by rw [hV]; exact HM.out.seen.drew)
  all_goals have HG : Hid (Chg t w V) := Lib.hid (by rw [hV]; exact (Chg.set (Tn.of_below HB.out) 1 _ HM.out.lt).drew)
  all_goals have hc := (show V.cell? ⟨b, off + k, none⟩ = some (.int .u64 (y : Int)) by
    rw [hV]
    refine Eq.trans ?_ HC.out
    show (W.setCell ⟨t, 1, none⟩ (.int .i64 ((k : Int) + 1))).cell? _ = _
    rw [World.cell?, World.cell?, Below.heap_setCell _ _ _ _ HX.out])
  all_goals clear hV c0 c1 f1
  all_goals have c0 := HT.out.c0
  all_goals have c1 := HT.out.c1
  all_goals obtain ⟨j, hj⟩ : ∃ j, j = k + 1 := ⟨_, rfl⟩
  all_goals rw [← hj] at c1 HT
  all_goals have hj1 : (j : Int) - 1 = (k : Int) := by omega
  all_goals have hkm : (k : Int) < (m : Int) := by omega
  all_goals have HJ := Lib.hid hj
  all_goals clear hj hlt
  all_goals go_region
  all_goals go_wp2
  all_goals go_ret
  all_goals exact ⟨rfl, HJ.out ▸ HT.out.drew, HG.out.drew⟩
set_option maxRecDepth 100000 in
set_option maxHeartbeats 4000000 in
theorem tdo_end (w : World) (t m c k : Nat) (ad : Option Addr) (x0 x : A) (h : Tp w t ad m c k false x0) (hk : m ≤ k) :
    Calls Try.prog 40 #[.pointer (some ⟨t, 0, none⟩), av x] w fun e w' => e = .returned (.int .u64 0) ∧ Tp w' t ad m c k true x ∧ Chg t w w' := by
  obtain ⟨xk, xb, xc, xo, xn⟩ := x
  obtain ⟨W, hW⟩ : ∃ W, W = w.alloc (.cells #[.int .i64 xk, .int .u64 (xb : Int), .int .i64 xc, .int .u64 (xo : Int), .int .u64 (xn : Int)] 30) := ⟨_, rfl⟩
  have hb : Below w.heap.size w W := by rw [hW]; exact (Below.refl _ w).alloc (Nat.le_refl _) _
  have a2 := fun o => (h.below ((Below.refl _ w).alloc (Nat.le_refl _) o)).c2
  have HM := Lib.hid (h.below hb)
  have HB := Lib.hid hb
  have hlt : decide ((k : Int) < (m : Int)) = false := by simp; omega
  have HT := Lib.hid (show t ≠ w.heap.size by have := h.lt; omega)
  clear h hb
  go_enter Try.func40, Try.ntmps40
  go_wp2
  rw [← hW]
  clear a2
  have c0 := HM.out.c0
  have c1 := HM.out.c1
  have f1 := HM.out.fz 1
  have c2 := HM.out.c2
  have c3 := HM.out.c3
  have c4 := HM.out.c4
  have c5 := HM.out.c5
  have c6 := HM.out.c6
  have c7 := HM.out.c7
  have f2 := HM.out.fz 2
  have f3 := HM.out.fz 3
  have f4 := HM.out.fz 4
  have f5 := HM.out.fz 5
  have f6 := HM.out.fz 6
  have f7 := HM.out.fz 7
  obtain ⟨e0, e1, e2, e3, e4⟩ := mbox w ⟨xk, xb, xc, xo, xn⟩
  rw [show boxed w ⟨xk, xb, xc, xo, xn⟩ = W from hW.symm] at e0 e1 e2 e3 e4
  dsimp only at e0 e1 e2 e3 e4
  have hm : t ≠ w.heap.size := HT.out
  clear hW
  generalize w.heap.size = z at e0 e1 e2 e3 e4 hm ⊢
  go_region
  all_goals go_wp2
  all_goals go_ret
  all_goals exact ⟨rfl, (HM.out.ended ⟨xk, xb, xc, xo, xn⟩).drew, (Chg.six (Tn.of_below HB.out) HM.out.lt _ _ _ _ _ _).drew⟩
end Go.Proofs.Ytdbolhalgbiggaa
