/-
  The boxes of the document's Seek on a tape, and what it does to the states. By an AI agent.
-/
import Derived.Test.YtknefjigdlbacaaGreatDoorSkExam
import Derived.Test.YtknefjigdlbacaaGreatDoorSkCrowd
import Derived.Test.YtknefjigdlbacaaGreatDoorSkKBJ
import Derived.Test.YtknefjigdlbacaaGreatDoorSkKAK
import Derived.Test.YtknefjigdlbacaaGreatDoorSkKAZ
set_option linter.unusedSimpArgs false
set_option linter.unusedVariables false
namespace Go.Proofs.YtknefjigdlbacaaGreatDoor
open Go.RowKit Go.Maps
open Ac (A)
abbrev fz4 : Array Value := #[.int .i64 0, .int .i64 0, .int .u64 0, .string ⟨#[]⟩]
/-- A site's box, a table's, a found's. -/
abbrev b3 (w : World) (sc tc : Array Value) (o : Obj) : World := ((w.alloc (.cells sc 26)).alloc (.cells tc 24)).alloc o
theorem b3_below (w : World) (sc tc : Array Value) (o : Obj) : Below w.heap.size w (b3 w sc tc o) := (((Below.refl _ w).alloc (Nat.le_refl _) _).alloc (by simp only [World.size_alloc]; omega) _).alloc (by simp only [World.size_alloc]; omega) _
theorem b3_at (w : World) (sc tc fc : Array Value) (W : World) (hW : W = b3 w sc tc (.cells fc 46)) : W.heap[w.heap.size]? = some (.cells sc 26 (0, 0)) ∧ W.heap[w.heap.size + 1]? = some (.cells tc 24 (0, 0)) ∧ W.heap[w.heap.size + 1 + 1]? = some (.cells fc 46 (0, 0)) ∧ W.heap.size = w.heap.size + 3 := by
  subst hW
  have h1 := heap_alloc_new w (.cells sc 26)
  have h2 := heap_alloc_new (w.alloc (.cells sc 26)) (.cells tc 24)
  have h3 := heap_alloc_new ((w.alloc (.cells sc 26)).alloc (.cells tc 24)) (.cells fc 46)
  rw [World.size_alloc] at h2
  rw [World.size_alloc, World.size_alloc] at h3
  refine ⟨?_, ?_, h3, by simp only [World.size_alloc]⟩
  · exact ((((Below.refl _ _).alloc (Nat.le_refl _) (.cells tc 24)).alloc (by simp only [World.size_alloc]; omega) (.cells fc 46)).block w.heap.size (by simp only [World.size_alloc]; omega)).trans h1
  · exact (((Below.refl _ _).alloc (Nat.le_refl _) (.cells fc 46)).block (w.heap.size + 1) (by simp only [World.size_alloc]; omega)).trans h2
/-- What the document's Seek reads of its boxes, and of the row of groups. -/
structure Env (z g : Nat) (sc tc : Array Value) (l : List Nat) (V : World) : Prop where
  site : V.heap[z]? = some (.cells sc 26 (0, 0))
  table : V.heap[z + 1]? = some (.cells tc 24 (0, 0))
  found : V.heap[z + 1 + 1]? = some (.cells fz4 46 (0, 0))
  row : ∀ n, n < l.length → V.cell? ⟨g, n, none⟩ = some (.int .i64 ((l.getD n 0 : Nat) : Int))
  g : g < V.heap.size
theorem Env.chg {z g t : Nat} {sc tc : Array Value} {l : List Nat} {V V' : World} (h : Env z g sc tc l V) (ht : t < z) (hg : g ≠ t) (hc : Chg t V V') : Env z g sc tc l V' := by
  have hb : ∀ {k : Nat} {o : Obj}, k ≠ t → V.heap[k]? = some o → V'.heap[k]? = some o := fun {k o} hk ho => (hc.block k (Array.getElem?_eq_some_iff.1 ho).1 hk).trans ho
  refine ⟨hb (by omega) h.site, hb (by omega) h.table, hb (by omega) h.found, fun n hn => ?_, Nat.lt_of_lt_of_le h.g hc.size⟩
  rw [World.cell?_of_block (hc.block g h.g hg)]
  exact h.row n hn
/-- The result's cell: what is stored there. -/
abbrev set4 (V : World) (y : Nat) (a b d v : Value) : World := (((V.setCell ⟨y, 0, none⟩ a).setCell ⟨y, 1, none⟩ b).setCell ⟨y, 2, none⟩ d).setCell ⟨y, 3, none⟩ v
theorem set4_below (V : World) {y n : Nat} (h : n ≤ y) (a b d v : Value) : Below n V (set4 V y a b d v) := ((((Below.refl n V).setCell (p := ⟨y, 0, none⟩) h _).setCell (p := ⟨y, 1, none⟩) h _).setCell (p := ⟨y, 2, none⟩) h _).setCell (p := ⟨y, 3, none⟩) h _
theorem set4_at {V : World} {y : Nat} {fc : Value × Value × Value × Value} {T : TypeId} (h : V.heap[y]? = some (.cells #[fc.1, fc.2.1, fc.2.2.1, fc.2.2.2] T (0, 0))) (a b d v : Value) : (set4 V y a b d v).heap[y]? = some (.cells #[a, b, d, v] T (0, 0)) := by
  have h4 := heap_setc (heap_setc (heap_setc (heap_setc h 0 a) 1 b) 2 d) 3 v
  refine h4.trans ?_
  simp
theorem ts_set4 {B t cc k : Nat} {ad : Option Addr} {GS : List Nat} {X : A} {V : World} (h : Ts B V t ad GS cc k X) {y : Nat} (hy : t < y) (a b d v : Value) : Ts B (set4 V y a b d v) t ad GS cc k X :=
  ⟨h.tB, h.own.keep ((set4_below V (n := t + 1) (by omega) a b d v).block t (by omega)), h.sl.below (set4_below V (by have := h.tB; omega) a b d v)⟩
/-! ### the states -/
variable {c : Sk.C} {chk : Bool} {GS : List Nat}
theorem toG_in {S : Sk.S} {n : Nat} (h : n < Tb.grp c.lg) : Sk.toG c S n = { S with n := n, g := Rt.gp c.h c.lg n, p := 1 } := by
  unfold Sk.toG
  rw [if_pos (by rw [Rt.gp_in (by rw [Sk.grp_eq]; exact h)]; omega)]
theorem toG_out {S : Sk.S} {n : Nat} (h : Tb.grp c.lg ≤ n) : ∃ S', Sk.toG c S n = Sk.fin S' ⟨if c.lay = 0 then 1 else 5, 0, 0, []⟩ := by
  have e : Rt.gp c.h c.lg n = -1 := Rt.gp_out (.inr (by rw [Sk.grp_eq]; omega))
  unfold Sk.toG
  rw [if_neg (by rw [e]; omega)]
  split
  · exact ⟨_, rfl⟩
  · exact ⟨_, rfl⟩
theorem goOn_0 {S : Sk.S} (h : Ct.nxc S.w S.i (Sk.cl c) = 0) : Sk.goOn c S = Sk.toG c { S with i := (Ct.nxp S.w S.i (Sk.cl c)).toNat } (S.n + 1) := by
  unfold Sk.goOn
  rw [if_neg (by omega), if_neg (by omega), if_neg (by omega)]
theorem goOn_1 {S : Sk.S} (h : Ct.nxc S.w S.i (Sk.cl c) = 1) : Sk.goOn c S = Sk.free c { S with i := (Ct.nxp S.w S.i (Sk.cl c)).toNat } := by
  unfold Sk.goOn
  rw [if_pos h]
theorem goOn_2 {S : Sk.S} (h : Ct.nxc S.w S.i (Sk.cl c) = 2) : Sk.goOn c S = Sk.fin { S with i := (Ct.nxp S.w S.i (Sk.cl c)).toNat } ⟨4, 0, 0, []⟩ := by
  unfold Sk.goOn
  rw [if_neg (by omega), if_pos h]
theorem goOn_3 {S : Sk.S} (h : Ct.nxc S.w S.i (Sk.cl c) = 3) : Sk.goOn c S = { S with i := (Ct.nxp S.w S.i (Sk.cl c)).toNat, p := 5 } := by
  unfold Sk.goOn
  rw [if_neg (by omega), if_neg (by omega), if_pos h]
/-- The document's place on its way: behind k answers the state is s; over, there comes one more act. -/
structure At (c : Sk.C) (chk : Bool) (GS : List Nat) (k : Nat) (s : Sk.S) : Prop where
  now : k ≤ GS.length → Sk.run c chk (GS.take k) = s
  over : GS.length < k → (Sk.run c chk GS).p ≠ 0
/-- One answer more. -/
theorem At.one {k : Nat} {s : Sk.S} (h : At c chk GS k s) (hp : s.p ≠ 0) {s' : Sk.S} (hs : Sk.step c s (GS.getD k 0) = s') : At c chk GS (k + 1) s' := by
  refine ⟨fun hk => ?_, fun hk => ?_⟩
  · rw [Sk.run_one (by omega), h.now (by omega), hs]
  · by_cases e : GS.length < k
    · exact h.over e
    · have ek : k = GS.length := by omega
      rw [← Sk.run_full ek, h.now (by omega)]
      exact hp
/-- Which act comes next, where the tape ends here. -/
theorem At.act {k : Nat} {s : Sk.S} {X : A} (h : At c chk GS k s) (hX : (Sk.run c chk GS).p ≠ 0 → X = Sk.act c (Sk.run c chk GS)) (hp : s.p ≠ 0) (hk : k = GS.length) {y : A} (hy : Sk.act c s = y) : y = X := by
  have e : Sk.run c chk GS = s := by rw [← Sk.run_full hk, h.now (by omega)]
  rw [hX (by rw [e]; exact hp), e, hy]
theorem At.eq {k : Nat} {s s' : Sk.S} (h : At c chk GS k s) (e : s = s') : At c chk GS k s' := e ▸ h
theorem act_p1 {s : Sk.S} (h : s.p = 1) : Sk.act c s = ⟨1, c.b, Sk.gcell c s, 0, 0⟩ := by unfold Sk.act; rw [if_pos h]
theorem act_p2 {s : Sk.S} (h : s.p = 2) : Sk.act c s = Cw.act c.b s.cs := by unfold Sk.act; rw [if_neg (by omega), if_pos h]
theorem act_p3 {s : Sk.S} (h : s.p = 3) : Sk.act c s = ⟨3, c.b, Sk.gcell c s, s.w, Sk.clmd c s⟩ := by unfold Sk.act; rw [if_neg (by omega), if_neg (by omega), if_pos h]
theorem act_p4 {s : Sk.S} (h : s.p = 4) : Sk.act c s = ⟨4, c.b, Tb.strp c.th, 0, 1⟩ := by unfold Sk.act; rw [if_neg (by omega), if_neg (by omega), if_neg (by omega), if_pos h]
theorem act_p5 {s : Sk.S} (h : s.p = 5) : Sk.act c s = ⟨1, c.b, Sk.scell c s, 0, 0⟩ := by unfold Sk.act; rw [if_neg (by omega), if_neg (by omega), if_neg (by omega), if_neg (by omega), if_pos h]
theorem act_p6 {s : Sk.S} (h : s.p = 6) : Sk.act c s = ⟨3, c.b, Sk.scell c s, 0, Sk.laidw c⟩ := by unfold Sk.act; rw [if_neg (by omega), if_neg (by omega), if_neg (by omega), if_neg (by omega), if_neg (by omega), if_pos h]
/-- What the document's Seek has come to. -/
def Sdone (B t : Nat) (ad : Option Addr) (cc : Nat) (X : A) (c : Sk.C) (chk : Bool) (GS : List Nat) (w : World) (e : Ending) (w' : World) : Prop :=
  ∃ f m, e = .returned (fv f) ∧ f.w < 18446744073709551616 ∧ Ts B w' t ad GS cc m X ∧ (m ≤ GS.length → ∃ s', Sk.run c chk (GS.take m) = Sk.fin s' f) ∧ (GS.length < m → (Sk.run c chk GS).p ≠ 0) ∧ Chg t w w'
theorem sdone_of {B t cc k : Nat} {ad : Option Addr} {X : A} {w V : World} {f : Sk.F} {s' : Sk.S} (ht : Ts B V t ad GS cc k X) (hf : f.w < 18446744073709551616) (ha : At c chk GS k (Sk.fin s' f)) (hc : Chg t w V) : Sdone B t ad cc X c chk GS w (.returned (fv f)) V :=
  ⟨f, k, rfl, hf, ht, fun hk => ⟨s', ha.now hk⟩, ha.over, hc⟩
end Go.Proofs.YtknefjigdlbacaaGreatDoor
