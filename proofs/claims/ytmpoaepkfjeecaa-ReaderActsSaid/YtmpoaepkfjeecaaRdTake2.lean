/-
  The walk of a reader's Take. By an AI agent.
-/
import Derived.Test.YtmpoaepkfjeecaaRdState
set_option linter.unusedSimpArgs false
set_option linter.unusedVariables false
namespace Go.Proofs.Ytmpoaepkfjeecaa
open Go.RowKit Go.Maps
open Ac (A)
theorem rtake_nil (v : Nat) (w : World) : Calls Try.prog 10 #[.pointer none, .int .u64 (v : Int)] w (Gives (.tuple #[]) w) := by
  have K := Lib.hid ract_nil
  go_enter Try.func10, Try.ntmps10
  go_wp2_with fail
  with_reducible refine (K.out _).mono ?_
  rintro e w1 ⟨rfl, hb⟩
  have HB := Lib.hid hb; clear hb
  go_wp2
  go_end0
  exact ⟨rfl, HB.out.trans (((Below.refl _ w1).alloc (Nat.le_refl _) _).mono HB.out.size)⟩
set_option maxRecDepth 100000 in
set_option maxHeartbeats 4000000 in
theorem rtake_none (w : World) (q n c v : Nat) (ad : Option Addr) (h : Rb w q ⟨0, 0, 0, 0, 0⟩ ad n c) : Calls Try.prog 10 #[.pointer (some ⟨q, 0, none⟩), .int .u64 (v : Int)] w (Gives (.tuple #[]) w) := by
  have K := Lib.hid (ract_any w q n c _ ad h)
  clear h
  go_enter Try.func10, Try.ntmps10
  go_wp2_with fail
  with_reducible refine K.out.mono ?_
  rintro e w1 ⟨rfl, hb⟩
  have HB := Lib.hid hb; clear hb
  rw [show (!isz ⟨0, 0, 0, 0, 0⟩) = false from rfl]
  go_wp2
  go_end0
  exact ⟨rfl, HB.out.trans (((Below.refl _ w1).alloc (Nat.le_refl _) _).mono HB.out.size)⟩
/-- The act behind an answer more. -/
def nx (t : Bool) (b j : Nat) : A := if t then ⟨0, 0, 0, 0, 0⟩ else ⟨1, b, ((j + 1 : Nat) : Int), 0, 0⟩
/-- What Take leaves. -/
def Tk (B q n : Nat) (x : A) (xs : List Int) (F : Nat → Prop) (w : World) (e : Ending) (w' : World) : Prop :=
  e = .returned (.tuple #[]) ∧ ∃ g c', Rb w' q x (some ⟨g, 0, none⟩) n c' ∧ w'.ownsRow B 22 1 (.slice (some ⟨g, 0, none⟩) n c') n (us xs) ∧ Tn F (Rf q (.slice (some ⟨g, 0, none⟩) n c')) w w'
theorem Tn.set {F F' : Nat → Prop} {w w' : World} (h : Tn F F' w w') {q : Nat} (hq : F q) (i : Nat) (v : Value) : Tn F F' w (w'.setCell ⟨q, i, none⟩ v) :=
  ⟨h.os, h.tape, h.output, by have := h.size; simpa [World.setCell] using this, fun k hk hF => (Below.heap_setCell _ _ _ _ (fun e => hF (by have e' : k = q := e; rw [e']; exact hq))).trans (h.block k hk hF), h.foot⟩
set_option maxRecDepth 100000 in
set_option maxHeartbeats 4000000 in
theorem rtake_go (w : World) (B q b j c v y : Nat) (ad : Option Addr) (xs : List Int) (t : Bool) (h : Rb w q ⟨1, b, (j : Int), 0, 0⟩ ad j c) (hr : w.ownsRow B 22 1 (.slice ad j c) j (us xs)) (hqB : B ≤ q) (hB : B ≤ w.heap.size) (hj : j ≤ 1000)
    (hy : (xs ++ [(v : Int)])[0]? = some (y : Int)) (hy2 : y < 18446744073709551616) (ht : (((j + 1 : Nat) : Int) == Bx.size (y : Int)) = t) :
    Calls Try.prog 10 #[.pointer (some ⟨q, 0, none⟩), .int .u64 (v : Int)] w (Tk B q (j + 1) (nx t b j) (xs ++ [(v : Int)]) (Rf q (.slice ad j c)) w) := by
  have K := Lib.hid (ract_any w q j c _ ad h)
  have KA : ∀ W, Below w.heap.size w W → Calls Try.prog 22 #[.pointer (some ⟨q, 5, none⟩), .int .u64 (v : Int)] W (Added B q j ⟨1, b, (j : Int), 0, 0⟩ xs v (Rf q (.slice ad j c)) W) := fun W hb => add_any W B q j c v _ ad xs (h.below hb) (own_below hr hb) (Nat.le_trans hB hb.size) hj
  have KW : ∀ (W : World) (x : A) (g c' : Nat), Rb W q x (some ⟨g, 0, none⟩) (j + 1) c' → W.ownsRow B 22 1 (.slice (some ⟨g, 0, none⟩) (j + 1) c') (j + 1) (us (xs ++ [(v : Int)])) → Calls Try.prog 20 #[.pointer (some ⟨q, 5, none⟩)] W (Gives (.bool t) W) := fun W x g c' h1 h2 => by
    have := whole_row h1 h2 (by omega) (by omega) hy hy2
    rwa [ht] at this
  have HA := Lib.hid KA; clear KA
  have HWH := Lib.hid KW; clear KW
  obtain ⟨l, hl⟩ : ∃ l, l = xs ++ [(v : Int)] := ⟨_, rfl⟩
  unfold Added at HA
  rw [← hl] at HA HWH ⊢
  clear h hr hy ht hl hqB hB
  go_enter Try.func10, Try.ntmps10
  go_wp2_with fail
  with_reducible refine K.out.mono ?_
  rintro e w1 ⟨rfl, hb⟩
  rw [show (!isz ⟨1, b, (j : Int), 0, 0⟩) = true by simp [isz, eqB]]
  obtain ⟨W, hW⟩ : ∃ W, W = w1.alloc (.cells #[.int .i64 1, .int .u64 (b : Int), .int .i64 (j : Int), .int .u64 0, .int .u64 0] 29) := ⟨_, rfl⟩
  have hb1 : Below w.heap.size w W := by rw [hW]; exact hb.trans (((Below.refl _ _).alloc (Nat.le_refl _) _).mono hb.size)
  have KA := Lib.hid (HA.out W hb1)
  have HB := Lib.hid hb1
  clear hb hb1 HA
  go_wp2_with fail
  rw [← hW]
  clear hW
  with_reducible refine KA.out.mono ?_
  rintro e w2 ⟨rfl, g, c', h2, hr2, tn2⟩
  have hne := h2.row_ne hr2
  have HT := Lib.hid (((Tn.of_below HB.out).trans tn2).set (q := q) (.inl rfl) 2 (.int .i64 ((j : Int) + 1)))
  have H3 := Lib.hid (h2.celled ((j : Int) + 1))
  have HR3 := Lib.hid (row_set hr2 hne 2 (.int .i64 ((j : Int) + 1)))
  have KH := Lib.hid (HWH.out _ _ _ _ H3.out HR3.out)
  have HNE := Lib.hid hne
  have d2 : w2.cell? ⟨q, 2, none⟩ = some (.int .i64 (j : Int)) := h2.c2
  have f2 := h2.fz 2
  clear h2 hr2 tn2 hne KA HWH
  have ej : wrap64 ((j : Int) + 1) = (j : Int) + 1 := by unfold wrap64; omega
  go_wp2_with fail
  with_reducible refine KH.out.mono ?_
  rintro e w4 ⟨rfl, hb4⟩
  have H4 := Lib.hid (H3.out.below hb4)
  have HR4 := Lib.hid (own_below HR3.out hb4)
  have HT4 := Lib.hid (HT.out.trans (Tn.of_below hb4))
  clear hb4 HT H3 HR3 KH
  cases t
  · go_wp2
    go_end0
    refine ⟨rfl, g, c', ?_, HR4.out, HT4.out⟩
    have := H4.out
    simpa [nx] using this
  · have c0 := H4.out.c0
    have c1 := H4.out.c1
    have c2 := H4.out.c2
    have c3 := H4.out.c3
    have c4 := H4.out.c4
    have f0 := H4.out.fz 0
    have f1 := H4.out.fz 1
    have f2 := H4.out.fz 2
    have f3 := H4.out.fz 3
    have f4 := H4.out.fz 4
    go_wp2
    go_end0
    refine ⟨rfl, g, c', H4.out.acted ⟨0, 0, 0, 0, 0⟩, ?_, ?_⟩
    · exact row_set (row_set (row_set (row_set (row_set HR4.out HNE.out 0 _) HNE.out 1 _) HNE.out 2 _) HNE.out 3 _) HNE.out 4 _
    · exact ((((HT4.out.set (.inl rfl) 0 _).set (.inl rfl) 1 _).set (.inl rfl) 2 _).set (.inl rfl) 3 _).set (.inl rfl) 4 _
/-- Take: one answer more. -/
theorem rtake_any {B : Nat} {w : World} {q b j c : Nat} {gs : List Nat} {ad : Option Addr} (h : Rst B w q b gs j ad c) (hw : ∀ x ∈ gs, x < 18446744073709551616) (hj : j < gs.length) (hB : B ≤ w.heap.size) :
    Calls Try.prog 10 #[.pointer (some ⟨q, 0, none⟩), .int .u64 ((gs.getD j 0 : Nat) : Int)] w fun e w' => e = .returned (.tuple #[]) ∧ ∃ ad' c', Rst B w' q b gs (j + 1) ad' c' ∧ Tn (Rst.F q gs j ad c) (Rst.F q gs (j + 1) ad' c') w w' := by
  by_cases hs : j < Rd.sz gs
  · have ho := h.own
    have hr := h.row
    rw [Rd.act_yes hs, Rd.nr_yes hs] at ho
    rw [Rd.nr_yes hs] at hr
    have hx := Rd.rd_next hs hj
    have hh := Rd.rd_head (gs := gs) (j := j + 1) (by omega) (by omega)
    rw [hx] at hh
    have ht : (((j + 1 : Nat) : Int) == Bx.size ((gs.getD 0 0 : Nat) : Int)) = !decide (j + 1 < Rd.sz gs) := by
      rw [← Rd.sz_int]
      by_cases hk : j + 1 < Rd.sz gs
      · rw [decide_eq_true hk]; simp; omega
      · rw [decide_eq_false hk]; simp; omega
    refine (rtake_go w B q b j c _ _ ad _ _ ho hr h.qB hB (by have := Rd.sz_bd gs; omega) hh (Rd.wf_getD hw 0) ht).mono ?_
    rintro e w' ⟨rfl, g, c', h1, h2, h3⟩
    refine ⟨rfl, some ⟨g, 0, none⟩, c', ⟨h.qB, ?_, ?_, by omega⟩, ?_⟩
    · rw [Rd.nr_next hs]
      by_cases hk : j + 1 < Rd.sz gs
      · rw [Rd.act_yes hk]
        rw [decide_eq_true hk] at h1
        exact h1
      · rw [Rd.act_no hk]
        rw [decide_eq_false hk] at h1
        exact h1
    · rw [Rd.nr_next hs, hx]; exact h2
    · unfold Rst.F
      rw [Rd.nr_yes hs, Rd.nr_next hs]
      exact h3
  · have ho := h.own
    rw [Rd.act_no hs] at ho
    refine (rtake_none w q _ c _ ad ho).mono ?_
    rintro e w' ⟨rfl, hb⟩
    have h1 := h.below hb
    have e1 : Rd.nr gs (j + 1) = Rd.nr gs j := by rw [Rd.nr_no hs, Rd.nr_no (by omega)]
    refine ⟨rfl, ad, c, ⟨h1.qB, ?_, ?_, by omega⟩, ?_⟩
    · rw [e1, Rd.act_no (by omega), ← Rd.act_no hs]; exact h1.own
    · rw [e1, Rd.rd_no hs]; exact h1.row
    · unfold Rst.F
      rw [e1]
      exact Tn.of_below hb
end Go.Proofs.Ytmpoaepkfjeecaa
