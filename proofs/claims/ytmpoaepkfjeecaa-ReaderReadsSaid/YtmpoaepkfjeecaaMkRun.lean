/-
  A maker, done alone on a new arena. By an AI agent.
-/
import Derived.Test.YtmpoaepkfjeecaaMkAlone
import Derived.Test.YtmpoaepkfjeecaaMkMake
set_option linter.unusedSimpArgs false
set_option linter.unusedVariables false
namespace Go.Proofs.Ytmpoaepkfjeecaa
open Go.RowKit Go.Maps
open Mm (Mem Blk)
open Ac (A)
/-- A maker's acts, counted by what its block holds. -/
def kat (q N : Nat) (w : World) : Nat := match w.cell? ⟨q, 5, none⟩, w.cell? ⟨q, 7, none⟩ with
  | some (.int _ 5), _ => 0
  | some (.int _ 2), some (.int _ i) => i.toNat + 1
  | _, _ => N
def KSt (q : Nat) (l : List Nat) (b : Nat) (B : Nat) (w : World) (k : Nat) (H : Nat → Prop) : Prop := k ≤ cnt l.length b ∧ ∃ g c, Mst B w q l g c k b ∧ H = fun j => j = q ∨ j = g
theorem more_cnt {n b k : Nat} : decide (k < cnt n b) = Kr.more n k b := by
  cases k with
  | zero => rw [Kr.more_zero]; exact decide_eq_true (by unfold cnt; split <;> omega)
  | succ j =>
    rw [Bool.eq_iff_iff, Kr.more_succ, decide_eq_true_iff]
    unfold cnt
    split <;> omega
theorem kat_eq {q : Nat} {l : List Nat} {b B k : Nat} {w : World} {H : Nat → Prop} (h : KSt q l b B w k H) : kat q (cnt l.length b) w = k := by
  obtain ⟨hk, g, c, h, -⟩ := h
  unfold kat
  rw [h.own.c5, h.own.c7]
  cases hm : Kr.more l.length k b with
  | false =>
    rw [Kr.act_none hm]
    have : ¬ k < cnt l.length b := by rw [← decide_eq_false_iff_not, more_cnt]; exact hm
    show cnt l.length b = k
    omega
  | true =>
    cases k with
    | zero => rw [Kr.act_zero]; rfl
    | succ j =>
      obtain ⟨h1, h2⟩ := Kr.more_succ.1 hm
      rw [Kr.act_store h1 h2]
      show ((j : Int)).toNat + 1 = j + 1
      omega
/-- A maker, as a routine on an arena that answers b to its first act. -/
def krt (q : Nat) (l : List Nat) (b : Nat) (h1 : 1 ≤ l.length) (h2 : l.length ≤ 1000000) : Rt where
  v := rv q
  N := cnt l.length b
  xs := fun k => Kr.act l k b
  vs := fun k => ((if k = 0 then b else 0 : Nat) : Int)
  St := KSt q l b
  at' := kat q (cnt l.length b)
  one := rfl
  foot := by
    rintro B w k H j ⟨hk, g, c, h, rfl⟩ (rfl | rfl)
    · exact ⟨h.qB, h.own.lt⟩
    · exact ⟨h.gB, h.ltg⟩
  keep := by
    rintro B w w' k H ⟨hk, g, c, h, rfl⟩ hj
    refine ⟨hk, g, c, ⟨h.qB, h.gB, h.ne, h.own.keep (hj q (.inl rfl)), ?_, fun i hi => by rw [World.cell?, hj g (.inr rfl)]; exact h.wds i hi⟩, rfl⟩
    have e := hj g (.inr rfl)
    rw [Array.getElem?_eq_getElem h.ltg] at e
    exact (Array.getElem?_eq_some_iff.1 e).1
  at_eq := kat_eq
  norec := by
    rintro B w k H j o ⟨hk, g, c, h, rfl⟩ (rfl | rfl) ho
    · have := h.own.symm.trans ho
      injection this with this
      subst this; rfl
    · have hc := h.wds 0 (by omega)
      unfold World.cell? at hc
      rw [ho] at hc
      cases o <;> first | rfl | (simp at hc)
  next := by
    rintro B w k H ⟨hk, g, c, h, rfl⟩ hN
    rw [more_cnt]
    have e : (if k < cnt l.length b then Kr.act l k b else ⟨0, 0, 0, 0, 0⟩) = Kr.act l k b := by
      by_cases hc : k < cnt l.length b
      · rw [if_pos hc]
      · rw [if_neg hc, Kr.act_none]; rw [← more_cnt]; exact decide_eq_false hc
    rw [e]
    exact next_some q _ _ w fun w1 hb => kact_any (h.below hb)
  take := by
    rintro B w k H ⟨hk, g, c, h, rfl⟩ hB hN
    refine take_some q _ w _ ((ktake_any h h1 h2 _).mono ?_)
    rintro e w' ⟨rfl, hm, hc⟩
    refine ⟨rfl, _, ⟨hN, g, c, ?_, rfl⟩, hc.os, hc.tape, hc.output, hc.size, fun j hj hF => hc.block j hj fun e => hF (.inl e), fun j hj => .inl hj⟩
    have : Kr.blk k b (if k = 0 then b else 0) = b := by unfold Kr.blk; split <;> rfl
    rwa [this] at hm
/-- The block's cells behind k stores. -/
def row (l : List Nat) : Nat → List Int
  | 0 => List.replicate l.length 0
  | k + 1 => (row l k).set k ((l.getD k 0 : Nat) : Int)
theorem row_len (l : List Nat) : ∀ k, (row l k).length = l.length
  | 0 => by simp [row]
  | k + 1 => by simp [row, row_len l k]
theorem row_at (l : List Nat) : ∀ k i, i < k → i < l.length → (row l k)[i]? = some ((l.getD i 0 : Nat) : Int)
  | 0, i, h, _ => by omega
  | k + 1, i, h, hl => by
    show ((row l k).set k _)[i]? = _
    by_cases e : i = k
    · subst e; rw [List.getElem?_set_self (by rw [row_len]; exact hl)]
    · rw [List.getElem?_set_ne (by omega)]; exact row_at l k i (by omega) hl
theorem row_up (l : List Nat) : row l l.length = Kr.up l := by
  refine List.ext_getElem? fun i => ?_
  by_cases h : i < l.length
  · rw [row_at l _ i h h, List.getElem?_eq_getElem (by rw [Kr.up_len]; exact h), Kr.up_get h]
  · rw [List.getElem?_eq_none (by rw [row_len]; omega), List.getElem?_eq_none (by rw [Kr.up_len]; omega)]
/-- The arena's memory behind k acts. -/
def Sm (r : Nat) (l : List Nat) : Nat → Mem
  | 0 => ⟨r, 0, 0, []⟩
  | k + 1 => if l.length ≤ r then ⟨r, 1, 0, [(1, row l k)]⟩ else ⟨r, 0, 0, []⟩
/-- The block that is answered. -/
def bb (r n : Nat) : Nat := if n ≤ r then 1 else 0
theorem sm_does {r : Nat} {l : List Nat} (hr : 1 ≤ r) (hr2 : r ≤ 65536) (h1 : 1 ≤ l.length) (h2 : l.length ≤ 1000) : ∀ k, k < cnt l.length (bb r l.length) → DoesIt (Sm r l k) (Kr.act l k (bb r l.length)) (((if k = 0 then bb r l.length else 0 : Nat) : Nat) : Int) (Sm r l (k + 1))
  | 0, _ => by
    rw [Kr.act_zero, if_pos rfl]
    unfold bb
    by_cases h : l.length ≤ r
    · rw [if_pos h]
      have := does_alloc (S := ⟨r, 0, 0, []⟩) ⟨hr, hr2, trivial, Nat.zero_le _, fun b hb => by simp at hb⟩ l.length h1 (by show _ ≤ r - 0; omega) (by simp)
      show DoesIt ⟨r, 0, 0, []⟩ _ _ (if l.length ≤ r then _ else _)
      rw [if_pos h]
      exact this
    · rw [if_neg h]
      show DoesIt ⟨r, 0, 0, []⟩ _ _ (if l.length ≤ r then _ else _)
      rw [if_neg h]
      exact does_none (S := ⟨r, 0, 0, []⟩) l.length h1 (by omega) (by show r - 0 < _; omega) (Nat.zero_le _)
  | k + 1, hk => by
    have hm := (Kr.more_succ (n := l.length) (j := k) (b := bb r l.length)).1 (by rw [← more_cnt]; exact decide_eq_true hk)
    rw [Kr.act_store hm.1 hm.2, if_neg (by omega)]
    have h : l.length ≤ r := by
      by_cases h : l.length ≤ r
      · exact h
      · exact absurd (by simp [bb, h]) hm.1
    have e1 : bb r l.length = 1 := by simp [bb, h]
    rw [e1]
    show DoesIt (if l.length ≤ r then _ else _) _ _ (if l.length ≤ r then _ else _)
    rw [if_pos h, if_pos h]
    have := does_store (S := ⟨r, 1, 0, [(1, row l k)]⟩) (ws := row l k) 1 k (l.getD k 0) (by omega) (by simp [Mm.get]) (by rw [row_len]; exact hm.2) (by omega)
    have e2 : (⟨r, 1, 0, [(1, row l k)]⟩ : Mem).put 1 k ((l.getD k 0 : Nat) : Int) = ⟨r, 1, 0, [(1, row l (k + 1))]⟩ := by simp [Mem.put, Mm.put, row]
    rw [e2] at this
    exact this
/-- The memory in the end. -/
def Fin (r : Nat) (l : List Nat) : Mem := if l.length ≤ r then ⟨r, 1, 0, [(1, Kr.up l)]⟩ else ⟨r, 0, 0, []⟩
theorem sm_fin (r : Nat) (l : List Nat) (h1 : 1 ≤ l.length) : Sm r l (cnt l.length (bb r l.length)) = Fin r l := by
  unfold Fin bb cnt
  by_cases h : l.length ≤ r
  · rw [if_pos h, if_pos h, if_neg (by omega)]
    show (if l.length ≤ r then _ else _) = _
    rw [if_pos h, row_up]
  · rw [if_neg h, if_neg h, if_pos rfl]
    show (if l.length ≤ r then _ else _) = _
    rw [if_neg h]
/-- What Alone comes to. -/
def Ran (B p q : Nat) (r : Nat) (l : List Nat) (w : World) (e : Ending) (w' : World) : Prop := e = .returned (.tuple #[.int .i64 (cnt l.length (bb r l.length) : Int), .bool true]) ∧ Below B w w' ∧ (∃ F, Ax B w' p (Fin r l) F) ∧ ∃ g c, Mst B w' q l g c (cnt l.length (bb r l.length)) (bb r l.length)
theorem kalone {B : Nat} {w : World} {p q g c r : Nat} {l : List Nat} {F : Nat → Prop} (ha : Ax B w p ⟨r, 0, 0, []⟩ F) (hm : Mst B w q l g c 0 0) (hap : ¬ F q ∧ ¬ F g) (hB : B ≤ w.heap.size) (hr : 1 ≤ r) (hr2 : r ≤ 65536) (h1 : 1 ≤ l.length) (h2 : l.length ≤ 6) (most : Int) (hmost : 7 ≤ most) :
    Calls Try.prog 13 #[.pointer (some ⟨p, 0, none⟩), rv q, .int .i64 most] w (Ran B p q r l w) := by
  have hN : cnt l.length (bb r l.length) ≤ 7 := by unfold cnt; split <;> omega
  have hst : KSt q l (bb r l.length) B w 0 (fun j => j = q ∨ j = g) := ⟨Nat.zero_le _, g, c, ⟨hm.qB, hm.gB, hm.ne, by have := hm.own; rw [Kr.act_zero] at this ⊢; exact this, hm.ltg, hm.wds⟩, rfl⟩
  have hdu : Du (krt q l (bb r l.length) h1 (by omega)) B w p (Sm r l 0) 0 F (fun j => j = q ∨ j = g) := ⟨ha, hst, by rintro k (rfl | rfl); exact hap.1; exact hap.2⟩
  refine (alone_any (krt q l (bb r l.length) h1 (by omega)) (Sm := Sm r l) hdu hB most (by show cnt _ _ ≤ 1000; omega) (sm_does hr hr2 h1 (by omega))).mono ?_
  rintro e w' ⟨he, F', H', hd, ht⟩
  have hmin : min most.toNat (krt q l (bb r l.length) h1 (by omega)).N = cnt l.length (bb r l.length) := by show min most.toNat (cnt l.length (bb r l.length)) = _; omega
  rw [hmin] at he hd
  obtain ⟨hk, g', c', hm', -⟩ := hd.ro
  have har := hd.ar
  rw [sm_fin r l h1] at har
  refine ⟨?_, ht.below (fun k hk => (hdu.foot hk).1) hB, ⟨F', har⟩, g', c', hm'⟩
  rw [he]
  show Ending.returned (.tuple #[_, .bool (decide (cnt _ _ ≤ cnt _ _))]) = _
  rw [decide_eq_true (Nat.le_refl _)]
end Go.Proofs.Ytmpoaepkfjeecaa
