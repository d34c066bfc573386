/-
  Several texts in one: The walk of the document's Make, on a tape; A maker, done alone on a new arena; Acts as functions of the memory. Plain mathematics; What acts do to a memory, whatever they are; a maker done alone on a memory with room. By an AI agent.
-/
import Derived.Test.YtknefjigdlbacaaGreatDoorSkGBI
import Derived.Test.YtknefjigdlbacaaGreatDoorSkGAQ
import Derived.Test.YtknefjigdlbacaaGreatDoorSkGAA
import Derived.Test.YtknefjigdlbacaaGreatDoorSkGAE
import Derived.Test.YtknefjigdlbacaaGreatDoorSkGAC
import Derived.Test.YtknefjigdlbacaaGreatDoorSkGAH
set_option linter.unusedSimpArgs false
set_option linter.unusedVariables false
namespace Go.Proofs.YtknefjigdlbacaaGreatDoor
open Go.RowKit Go.Maps
open Ac (A)
/-- A tape behind k acts; x is the act behind all answers. -/
structure Ts (B : Nat) (w : World) (t : Nat) (ad : Option Addr) (gs : List Nat) (c k : Nat) (x : A) : Prop where
  tB : B ≤ t
  own : Tp w t ad gs.length c (min k gs.length) (decide (gs.length < k)) (if gs.length < k then x else ⟨0, 0, 0, 0, 0⟩)
  sl : Sl .u64 w B ad (Kr.up gs)
section
variable {B : Nat} {w w' : World} {t c k : Nat} {ad : Option Addr} {gs : List Nat} {x y : A}
theorem Ts.bw (h : Ts B w t ad gs c k x) : B ≤ w.heap.size := by have := h.tB; have := h.own.lt; omega
theorem Ts.chg (h : Ts B w t ad gs c k x) (hc : Chg t w w') : Below B w w' := hc.below (fun k hk => by have := h.tB; omega) h.bw
theorem Ts.below (h : Ts B w t ad gs c k x) (hb : Below w.heap.size w w') : Ts B w' t ad gs c k x := ⟨h.tB, h.own.below hb, h.sl.below (hb.mono h.bw)⟩
theorem tdo_any (h : Ts B w t ad gs c k x) (hx : k = gs.length → y = x) (hm : gs.length ≤ 1000000) : Calls Tryz.prog 53 #[.pointer (some ⟨t, 0, none⟩), av y] w fun e w' => e = .returned (.int .u64 ((gs.getD k 0 : Nat) : Int)) ∧ Ts B w' t ad gs c (k + 1) x ∧ Chg t w w' := by
  have ho := h.own
  rcases Nat.lt_trichotomy k gs.length with hk | hk | hk
  · rw [Nat.min_eq_left (by omega), decide_eq_false (by omega), if_neg (by omega)] at ho
    rcases h.sl with h0 | ⟨b, off, rfl, hb, hc⟩
    · have : (Kr.up gs).length = 0 := by rw [h0]; rfl
      rw [Kr.up_len] at this; omega
    · have hck := hc k (by rw [Kr.up_len]; exact hk)
      rw [Kr.up_get hk] at hck
      refine (tdo_got w t _ c k (gs.getD k 0) b off _ y ho hk hm (by have := h.tB; omega) (by have := h.bw; omega) hck).mono ?_
      rintro e w' ⟨rfl, h1, h2⟩
      refine ⟨rfl, ⟨h.tB, ?_, h.sl.below (h.chg h2)⟩, h2⟩
      rw [Nat.min_eq_left (by omega), decide_eq_false (by omega), if_neg (by omega)]
      exact h1
  · subst hk
    rw [Nat.min_self, decide_eq_false (by omega), if_neg (by omega)] at ho
    refine (tdo_end w t _ c _ ad _ y ho (Nat.le_refl _)).mono ?_
    rintro e w' ⟨rfl, h1, h2⟩
    refine ⟨by rw [List.getD_eq_getElem?_getD, List.getElem?_eq_none (Nat.le_refl _)]; rfl, ⟨h.tB, ?_, h.sl.below (h.chg h2)⟩, h2⟩
    rw [Nat.min_eq_right (by omega), decide_eq_true (by omega), if_pos (by omega), ← hx rfl]
    exact h1
  · have ho' := ho
    rw [Nat.min_eq_right (by omega), decide_eq_true (by omega), if_pos (by omega)] at ho
    refine (tdo_over w t _ c _ ad _ y ho).mono ?_
    rintro e w' ⟨rfl, h1⟩
    refine ⟨by rw [List.getD_eq_getElem?_getD, List.getElem?_eq_none (by omega)]; rfl, ⟨h.tB, ?_, h.sl.below (h1.mono h.bw)⟩, Tn.of_below h1⟩
    rw [Nat.min_eq_right (by omega), decide_eq_true (by omega), if_pos (by omega)]
    exact ho.below h1
set_option maxHeartbeats 1000000 in
theorem tstore_any (b i v : Nat) (h : Ts B w t ad gs c k x) (hx : k = gs.length → ⟨2, b, (i : Int), 0, v⟩ = x) (hm : gs.length ≤ 1000000) : Calls Tryz.prog 139 #[.pointer (some ⟨t, 0, none⟩), .int .u64 (b : Int), .int .i64 (i : Int), .int .u64 (v : Int)] w fun e w' => e = .returned (.tuple #[]) ∧ Ts B w' t ad gs c (k + 1) x ∧ Chg t w w' := by
  have K := Lib.hid (show Calls Tryz.prog 53 #[.pointer (some ⟨t, 0, none⟩), .agg #[.int .i64 2, .int .u64 (b : Int), .int .i64 (i : Int), .int .u64 0, .int .u64 (v : Int)]] w fun e w' => e = .returned (.int .u64 ((gs.getD k 0 : Nat) : Int)) ∧ Ts B w' t ad gs c (k + 1) x ∧ Chg t w w' from tdo_any (y := ⟨2, b, (i : Int), 0, v⟩) h hx hm)
  clear h hx
  generalize gs.getD k 0 = y at *
  go_enter Tryz.func139, Tryz.ntmps139
  go_wp2_with fail
  with_reducible refine K.out.mono ?_
  rintro e w' ⟨rfl, h1, h2⟩
  have H1 := Lib.hid h1
  have H2 := Lib.hid h2
  clear h1 h2
  go_wp2
  go_end0
  exact ⟨rfl, H1.out, H2.out⟩
end
/-- The k-th act. -/
def ac (l : List Nat) (b k : Nat) : A := if k = 0 then ⟨5, 0, l.length, 0, 0⟩ else ⟨2, b, ((k - 1 : Nat) : Int), 0, l.getD (k - 1) 0⟩
/-- How many acts there are. -/
def cnt (n b : Nat) : Nat := if b = 0 then 1 else n + 1
theorem cnt_more {n m b : Nat} (hb : m = 0 → b = 0) : decide (m < cnt n b) = Kr.more n m b := by
  unfold cnt Kr.more
  by_cases h : b = 0
  · subst h; rw [Bool.eq_iff_iff]; simp
  · have : m ≠ 0 := fun e => h (hb e)
    rw [Bool.eq_iff_iff]; simp [h, this]; omega
theorem act_ac {l : List Nat} {m b : Nat} (hb : m = 0 → b = 0) : (if m < cnt l.length b then ac l b m else ⟨0, 0, 0, 0, 0⟩) = Kr.act l m b := by
  unfold Kr.act
  rw [← cnt_more hb]
  by_cases h : m < cnt l.length b
  · rw [if_pos h, decide_eq_true h, if_pos rfl]; rfl
  · rw [if_neg h, decide_eq_false h]; rfl
end Go.Proofs.YtknefjigdlbacaaGreatDoor
set_option linter.unusedSimpArgs false
set_option linter.unusedVariables false
namespace Go.Proofs.YtknefjigdlbacaaGreatDoor
open Go.RowKit Go.Maps
open Mm (Mem Blk)
open Ac (A)
/-- A maker's acts, counted by what its block holds. -/
def kat (q N : Nat) (w : World) : Nat := match w.cell? ⟨q, 5, none⟩, w.cell? ⟨q, 7, none⟩ with
  | some (.int _ 5), _ => 0
  | some (.int _ 2), some (.int _ i) => i.toNat + 1
  | _, _ => N
def KSt (q : Nat) (l : List Nat) (b : Nat) (B : Nat) (w : World) (k : Nat) (H : Nat → Prop) : Prop := k ≤ cnt l.length b ∧ ∃ g c, Mst B w q l g c k b ∧ H = fun j => j = q ∨ j = g
theorem more_cnt {n b k : Nat} : decide (k < cnt n b) = Kr.more n k b := by
  cases k with
  | zero => rw [Kr.more_zero]; exact decide_eq_true (by unfold cnt; split <;> omega)
  | succ j =>
    rw [Bool.eq_iff_iff, Kr.more_succ, decide_eq_true_iff]
    unfold cnt
    split <;> omega
theorem kat_eq {q : Nat} {l : List Nat} {b B k : Nat} {w : World} {H : Nat → Prop} (h : KSt q l b B w k H) : kat q (cnt l.length b) w = k := by
  obtain ⟨hk, g, c, h, -⟩ := h
  unfold kat
  rw [h.own.c5, h.own.c7]
  cases hm : Kr.more l.length k b with
  | false =>
    rw [Kr.act_none hm]
    have : ¬ k < cnt l.length b := by rw [← decide_eq_false_iff_not, more_cnt]; exact hm
    show cnt l.length b = k
    omega
  | true =>
    cases k with
    | zero => rw [Kr.act_zero]; rfl
    | succ j =>
      obtain ⟨h1, h2⟩ := Kr.more_succ.1 hm
      rw [Kr.act_store h1 h2]
      show ((j : Int)).toNat + 1 = j + 1
      omega
/-- A maker, as a routine on an arena that answers b to its first act. -/
def krt (q : Nat) (l : List Nat) (b : Nat) (h1 : 1 ≤ l.length) (h2 : l.length ≤ 1000000) : Rt where
  v := rv q
  N := cnt l.length b
  xs := fun k => Kr.act l k b
  vs := fun k => ((if k = 0 then b else 0 : Nat) : Int)
  St := KSt q l b
  at' := kat q (cnt l.length b)
  one := rfl
  foot := by
    rintro B w k H j ⟨hk, g, c, h, rfl⟩ (rfl | rfl)
    · exact ⟨h.qB, h.own.lt⟩
    · exact ⟨h.gB, h.ltg⟩
  keep := by
    rintro B w w' k H ⟨hk, g, c, h, rfl⟩ hj _
    refine ⟨hk, g, c, ⟨h.qB, h.gB, h.ne, h.own.keep (hj q (.inl rfl)), ?_, fun i hi => by rw [World.cell?, hj g (.inr rfl)]; exact h.wds i hi⟩, rfl⟩
    have e := hj g (.inr rfl)
    rw [Array.getElem?_eq_getElem h.ltg] at e
    exact (Array.getElem?_eq_some_iff.1 e).1
  at_eq := kat_eq
  norec := by
    rintro B w k H j o ⟨hk, g, c, h, rfl⟩ (rfl | rfl) ho
    · have := h.own.symm.trans ho
      injection this with this
      subst this; rfl
    · have hc := h.wds 0 (by omega)
      unfold World.cell? at hc
      rw [ho] at hc
      cases o <;> first | rfl | (simp at hc)
  next := by
    rintro B w k H ⟨hk, g, c, h, rfl⟩ hN
    rw [more_cnt]
    have e : (if k < cnt l.length b then Kr.act l k b else ⟨0, 0, 0, 0, 0⟩) = Kr.act l k b := by
      by_cases hc : k < cnt l.length b
      · rw [if_pos hc]
      · rw [if_neg hc, Kr.act_none]; rw [← more_cnt]; exact decide_eq_false hc
    rw [e]
    exact next_some q _ _ w fun w1 hb => kact_any (h.below hb)
  take := by
    rintro B w k H ⟨hk, g, c, h, rfl⟩ hB hN
    refine take_some q _ w _ ((ktake_any h h1 h2 _).mono ?_)
    rintro e w' ⟨rfl, hm, hc⟩
    refine ⟨rfl, _, ⟨hN, g, c, ?_, rfl⟩, hc.os, hc.tape, hc.output, hc.size, fun j hj hF => hc.block j hj fun e => hF (.inl e), fun j hj => .inl hj⟩
    have : Kr.blk k b (if k = 0 then b else 0) = b := by unfold Kr.blk; split <;> rfl
    rwa [this] at hm
/-- The block's cells behind k stores. -/
def row (l : List Nat) : Nat → List Int
  | 0 => List.replicate l.length 0
  | k + 1 => (row l k).set k ((l.getD k 0 : Nat) : Int)
theorem row_len (l : List Nat) : ∀ k, (row l k).length = l.length
  | 0 => by simp [row]
  | k + 1 => by simp [row, row_len l k]
theorem row_at (l : List Nat) : ∀ k i, i < k → i < l.length → (row l k)[i]? = some ((l.getD i 0 : Nat) : Int)
  | 0, i, h, _ => by omega
  | k + 1, i, h, hl => by
    show ((row l k).set k _)[i]? = _
    by_cases e : i = k
    · subst e; rw [List.getElem?_set_self (by rw [row_len]; exact hl)]
    · rw [List.getElem?_set_ne (by omega)]; exact row_at l k i (by omega) hl
theorem row_up (l : List Nat) : row l l.length = Kr.up l := by
  refine List.ext_getElem? fun i => ?_
  by_cases h : i < l.length
  · rw [row_at l _ i h h, List.getElem?_eq_getElem (by rw [Kr.up_len]; exact h), Kr.up_get h]
  · rw [List.getElem?_eq_none (by rw [row_len]; omega), List.getElem?_eq_none (by rw [Kr.up_len]; omega)]
/-- The arena's memory behind k acts. -/
def Sm (r : Nat) (l : List Nat) : Nat → Mem
  | 0 => ⟨r, 0, 0, []⟩
  | k + 1 => if l.length ≤ r then ⟨r, 1, 0, [(1, row l k)]⟩ else ⟨r, 0, 0, []⟩
/-- The block that is answered. -/
def bb (r n : Nat) : Nat := if n ≤ r then 1 else 0
theorem sm_does {r : Nat} {l : List Nat} (hr : 1 ≤ r) (hr2 : r ≤ 65536) (h1 : 1 ≤ l.length) (h2 : l.length ≤ 1000) : ∀ k, k < cnt l.length (bb r l.length) → DoesIt (Sm r l k) (Kr.act l k (bb r l.length)) (((if k = 0 then bb r l.length else 0 : Nat) : Nat) : Int) (Sm r l (k + 1))
  | 0, _ => by
    rw [Kr.act_zero, if_pos rfl]
    unfold bb
    by_cases h : l.length ≤ r
    · rw [if_pos h]
      have := does_alloc (S := ⟨r, 0, 0, []⟩) ⟨hr, hr2, trivial, Nat.zero_le _, fun b hb => by simp at hb⟩ l.length h1 (by show _ ≤ r - 0; omega) (by simp)
      show DoesIt ⟨r, 0, 0, []⟩ _ _ (if l.length ≤ r then _ else _)
      rw [if_pos h]
      exact this
    · rw [if_neg h]
      show DoesIt ⟨r, 0, 0, []⟩ _ _ (if l.length ≤ r then _ else _)
      rw [if_neg h]
      exact does_none (S := ⟨r, 0, 0, []⟩) l.length h1 (by omega) (by show r - 0 < _; omega) (Nat.zero_le _)
  | k + 1, hk => by
    have hm := (Kr.more_succ (n := l.length) (j := k) (b := bb r l.length)).1 (by rw [← more_cnt]; exact decide_eq_true hk)
    rw [Kr.act_store hm.1 hm.2, if_neg (by omega)]
    have h : l.length ≤ r := by
      by_cases h : l.length ≤ r
      · exact h
      · exact absurd (by simp [bb, h]) hm.1
    have e1 : bb r l.length = 1 := by simp [bb, h]
    rw [e1]
    show DoesIt (if l.length ≤ r then _ else _) _ _ (if l.length ≤ r then _ else _)
    rw [if_pos h, if_pos h]
    have := does_store (S := ⟨r, 1, 0, [(1, row l k)]⟩) (ws := row l k) 1 k (l.getD k 0) (by omega) (by simp [Mm.get]) (by rw [row_len]; exact hm.2) (by omega)
    have e2 : (⟨r, 1, 0, [(1, row l k)]⟩ : Mem).put 1 k ((l.getD k 0 : Nat) : Int) = ⟨r, 1, 0, [(1, row l (k + 1))]⟩ := by simp [Mem.put, Mm.put, row]
    rw [e2] at this
    exact this
/-- The memory in the end. -/
def Fin (r : Nat) (l : List Nat) : Mem := if l.length ≤ r then ⟨r, 1, 0, [(1, Kr.up l)]⟩ else ⟨r, 0, 0, []⟩
theorem sm_fin (r : Nat) (l : List Nat) (h1 : 1 ≤ l.length) : Sm r l (cnt l.length (bb r l.length)) = Fin r l := by
  unfold Fin bb cnt
  by_cases h : l.length ≤ r
  · rw [if_pos h, if_pos h, if_neg (by omega)]
    show (if l.length ≤ r then _ else _) = _
    rw [if_pos h, row_up]
  · rw [if_neg h, if_neg h, if_pos rfl]
    show (if l.length ≤ r then _ else _) = _
    rw [if_neg h]
/-- What Alone comes to. -/
def Ran (B p q : Nat) (r : Nat) (l : List Nat) (w : World) (e : Ending) (w' : World) : Prop := e = .returned (.tuple #[.int .i64 (cnt l.length (bb r l.length) : Int), .bool true]) ∧ Below B w w' ∧ (∃ F, Ax B w' p (Fin r l) F) ∧ ∃ g c, Mst B w' q l g c (cnt l.length (bb r l.length)) (bb r l.length)
theorem kalone {B : Nat} {w : World} {p q g c r : Nat} {l : List Nat} {F : Nat → Prop} (ha : Ax B w p ⟨r, 0, 0, []⟩ F) (hm : Mst B w q l g c 0 0) (hap : ¬ F q ∧ ¬ F g) (hlow : 0 < B) (hB : B ≤ w.heap.size) (hr : 1 ≤ r) (hr2 : r ≤ 65536) (h1 : 1 ≤ l.length) (h2 : l.length ≤ 6) (most : Int) (hmost : 7 ≤ most) :
    Calls Tryz.prog 17 #[.pointer (some ⟨p, 0, none⟩), rv q, .int .i64 most] w (Ran B p q r l w) := by
  have hN : cnt l.length (bb r l.length) ≤ 7 := by unfold cnt; split <;> omega
  have hst : KSt q l (bb r l.length) B w 0 (fun j => j = q ∨ j = g) := ⟨Nat.zero_le _, g, c, ⟨hm.qB, hm.gB, hm.ne, by have := hm.own; rw [Kr.act_zero] at this ⊢; exact this, hm.ltg, hm.wds⟩, rfl⟩
  have hdu : Du (krt q l (bb r l.length) h1 (by omega)) B w p (Sm r l 0) 0 F (fun j => j = q ∨ j = g) := ⟨ha, hst, by rintro k (rfl | rfl); exact hap.1; exact hap.2, hlow⟩
  refine (alone_any (krt q l (bb r l.length) h1 (by omega)) (Sm := Sm r l) hdu hB most (by show cnt _ _ ≤ 1000; omega) (sm_does hr hr2 h1 (by omega))).mono ?_
  rintro e w' ⟨he, F', H', hd, ht⟩
  have hmin : min most.toNat (krt q l (bb r l.length) h1 (by omega)).N = cnt l.length (bb r l.length) := by show min most.toNat (cnt l.length (bb r l.length)) = _; omega
  rw [hmin] at he hd
  obtain ⟨hk, g', c', hm', -⟩ := hd.ro
  have har := hd.ar
  rw [sm_fin r l h1] at har
  refine ⟨?_, ht.below (fun k hk => (hdu.foot hk).1) hB, ⟨F', har⟩, g', c', hm'⟩
  rw [he]
  show Ending.returned (.tuple #[_, .bool (decide (cnt _ _ ≤ cnt _ _))]) = _
  rw [decide_eq_true (Nat.le_refl _)]
end Go.Proofs.YtknefjigdlbacaaGreatDoor
set_option linter.unusedSimpArgs false
set_option linter.unusedVariables false
namespace Go.Proofs.YtknefjigdlbacaaGreatDoor
open Mm (Mem Blk)
open Ac (A)
/-! ### acts, as functions of the memory -/
/-- The cell that an act is about. -/
def Mm.at_ (M : Mem) (x : A) : Nat := match Mm.get M.L x.b with | some ws => (ws.getD x.c.toNat 0).toNat | none => 0
/-- What is answered. -/
def Mm.ans (M : Mem) (x : A) : Nat := if x.k = 2 then 0 else Mm.at_ M x
/-- The memory behind. -/
def Mm.aft (M : Mem) (x : A) : Mem :=
  if x.k = 2 then M.put x.b x.c.toNat (x.n : Int)
  else if x.k = 3 then (if Mm.at_ M x = x.o then M.put x.b x.c.toNat (x.n : Int) else M)
  else if x.k = 4 then M.put x.b x.c.toNat ((Mm.at_ M x + x.n : Nat) : Int)
  else M
/-- An act on a cell that is there. -/
structure Mm.Ok (M : Mem) (x : A) (ws : List Int) : Prop where
  b : x.b < 18446744073709551616
  get : Mm.get M.L x.b = some ws
  c0 : 0 ≤ x.c
  c1 : x.c.toNat < ws.length
  len : ws.length ≤ 1000000
  pos : 0 ≤ ws.getD x.c.toNat 0
  form : (x.k = 1 ∧ x.o = 0 ∧ x.n = 0) ∨ (x.k = 2 ∧ x.o = 0) ∨ x.k = 3 ∨ (x.k = 4 ∧ x.o = 0 ∧ (ws.getD x.c.toNat 0).toNat + x.n < 18446744073709551616)
end Go.Proofs.YtknefjigdlbacaaGreatDoor
set_option linter.unusedSimpArgs false
set_option linter.unusedVariables false
namespace Go.Proofs.YtknefjigdlbacaaGreatDoor
open Go.RowKit Go.Maps
open Mm (Mem Blk)
open Ac (A)
theorem Mm.put_none' : ∀ {l : List Blk} {n : Nat} (i : Nat) (v : Int), Mm.get l n = none → Mm.put l n i v = l
  | [], _, _, _, _ => rfl
  | b :: r, n, i, v, h => by
    unfold Mm.get at h
    unfold Mm.put
    split at h
    · cases h
    · rename_i e
      rw [if_neg e, Mm.put_none' i v h]
theorem Mm.put_append' : ∀ (l m : List Blk) (n i : Nat) (v : Int), Mm.put (l ++ m) n i v = Mm.put l n i v ++ Mm.put m n i v
  | [], _, _, _, _ => rfl
  | b :: r, m, n, i, v => by
    show _ :: Mm.put (r ++ m) n i v = _ :: (Mm.put r n i v ++ Mm.put m n i v)
    rw [Mm.put_append' r m n i v]
/-- The memory behind an Alloc and k stores. -/
def Smx (S : Mem) (ws : List Int) : Mem := ⟨S.room, S.last + 1, S.faults, S.L ++ [(S.last + 1, ws)]⟩
def Smg (S : Mem) (l : List Nat) : Nat → Mem
  | 0 => S
  | k + 1 => Smx S (row l k)
theorem smx_get {S : Mem} (hG : Mm.Good S) (ws : List Int) : Mm.get (Smx S ws).L (S.last + 1) = some ws := by
  show Mm.get (S.L ++ _) _ = _
  rw [Mm.get_append, Mm.new_get S hG]
  simp [Mm.get]
theorem smx_put {S : Mem} (hG : Mm.Good S) (ws : List Int) (i : Nat) (v : Int) : (Smx S ws).put (S.last + 1) i v = Smx S (ws.set i v) := by
  unfold Smx Mem.put
  simp only [Mm.put_append', Mm.put_none' i v (Mm.new_get S hG)]
  simp [Mm.put]
theorem smg_does {S : Mem} {l : List Nat} (hG : Mm.Good S) (hn : l.length ≤ S.room - Mm.used S.L) (hl : S.last ≤ 1000000000000) (h1 : 1 ≤ l.length) (h2 : l.length ≤ 1000) : ∀ k, k < cnt l.length (S.last + 1) → DoesIt (Smg S l k) (Kr.act l k (S.last + 1)) (((if k = 0 then S.last + 1 else 0 : Nat) : Nat) : Int) (Smg S l (k + 1))
  | 0, _ => by
    rw [Kr.act_zero, if_pos rfl]
    have := does_alloc hG l.length h1 hn hl
    rw [show ((S.last + 1 : Nat) : Int) = (S.last : Int) + 1 by omega]
    exact this
  | k + 1, hk => by
    have hm := (Kr.more_succ (n := l.length) (j := k) (b := S.last + 1)).1 (by rw [← more_cnt]; exact decide_eq_true hk)
    rw [Kr.act_store hm.1 hm.2, if_neg (by omega)]
    show DoesIt (Smx S (row l k)) _ _ (Smx S ((row l k).set k ((l.getD k 0 : Nat) : Int)))
    rw [← smx_put hG]
    exact does_store (S := Smx S (row l k)) (ws := row l k) (S.last + 1) k (l.getD k 0) (by omega) (smx_get hG _) (by rw [row_len]; exact hm.2) (by omega)
/-- What a maker leaves that was done alone. -/
def Ran2 (B p q g : Nat) (S : Mem) (l : List Nat) (F : Nat → Prop) (w : World) (e : Ending) (w' : World) : Prop :=
  e = .returned (.tuple #[.int .i64 ((l.length + 1 : Nat) : Int), .bool true]) ∧ ∃ F' H' g' c', Ax B w' p (Smx S (Kr.up l)) F' ∧ Mst B w' q l g' c' (l.length + 1) (S.last + 1) ∧ (∀ k, F' k → B ≤ k ∧ k < w'.heap.size) ∧ Tn (Or2 F (fun j => j = q ∨ j = g)) (Or2 F' H') w w'
theorem kalone2 {B : Nat} {w : World} {p q g c : Nat} {S : Mem} {l : List Nat} {F : Nat → Prop} (ha : Ax B w p S F) (hm : Mst B w q l g c 0 0) (hap : ¬ F q ∧ ¬ F g) (hlow : 0 < B) (hB : B ≤ w.heap.size) (hG : Mm.Good S) (hn : l.length ≤ S.room - Mm.used S.L) (hl : S.last ≤ 1000000000000) (h1 : 1 ≤ l.length) (h2 : l.length ≤ 6) (most : Int) (hmost : 7 ≤ most) :
    Calls Tryz.prog 17 #[.pointer (some ⟨p, 0, none⟩), rv q, .int .i64 most] w (Ran2 B p q g S l F w) := by
  have hN : cnt l.length (S.last + 1) = l.length + 1 := by unfold cnt; rw [if_neg (by omega)]
  have hst : KSt q l (S.last + 1) B w 0 (fun j => j = q ∨ j = g) := ⟨Nat.zero_le _, g, c, ⟨hm.qB, hm.gB, hm.ne, by have := hm.own; rw [Kr.act_zero] at this ⊢; exact this, hm.ltg, hm.wds⟩, rfl⟩
  have hdu : Du (krt q l (S.last + 1) h1 (by omega)) B w p (Smg S l 0) 0 F (fun j => j = q ∨ j = g) := ⟨ha, hst, by rintro k (rfl | rfl); exact hap.1; exact hap.2, hlow⟩
  refine (alone_any (krt q l (S.last + 1) h1 (by omega)) (Sm := Smg S l) hdu hB most (by show cnt l.length (S.last + 1) ≤ 1000; omega) (smg_does hG hn hl h1 (by omega))).mono ?_
  rintro e w' ⟨he, F', H', hd, ht⟩
  have hmin : min most.toNat (krt q l (S.last + 1) h1 (by omega)).N = l.length + 1 := by show min most.toNat (cnt l.length (S.last + 1)) = _; omega
  rw [hmin] at he hd
  obtain ⟨hk, g', c', hm', -⟩ := hd.ro
  have har : Ax B w' p (Smx S (row l l.length)) F' := hd.ar
  rw [row_up] at har
  refine ⟨?_, F', H', g', c', har, hm', fun k hk => har.foot hk, ht⟩
  rw [he, decide_eq_true (show (krt q l (S.last + 1) h1 (by omega)).N ≤ l.length + 1 by show cnt l.length (S.last + 1) ≤ _; omega)]
theorem does_load {S : Mem} {ws : List Int} (b j v : Nat) (hb : b < 18446744073709551616) (hg : Mm.get S.L b = some ws) (hj : ws[j]? = some (v : Int)) (hj2 : j ≤ 1000000) : DoesIt S ⟨1, b, (j : Int), 0, 0⟩ v S :=
  fun B w p F h hB => dstep1 _ b (j : Int) 0 0 (v : Int) 0 w _ (by omega) (by simp [Ac.right, Ac.known, Ac.fb, Ac.fc, Ac.fo, Ac.fn]) fun w1 hw1 => of_same hw1 (ax_at hw1 h) (load_ok (ax_at hw1 h) hb hg j hj)
theorem does_add {S : Mem} {ws : List Int} (b j v x : Nat) (hb : b < 18446744073709551616) (hg : Mm.get S.L b = some ws) (hj : ws[j]? = some (v : Int)) (hj2 : j ≤ 1000000) (hx : v + x < 18446744073709551616) : DoesIt S ⟨4, b, (j : Int), 0, x⟩ v (S.put b j ((v + x : Nat) : Int)) :=
  fun B w p F h hB => dstep4 _ b (j : Int) 0 x (v : Int) 0 w _ (by omega) (by simp [Ac.right, Ac.known, Ac.fb, Ac.fc, Ac.fo, Ac.fn]) fun w1 hw1 => of_turns hw1 (by
    have := add_ok (ax_at hw1 h) hb hg j hj (x : Int)
    rwa [show IntKind.u64.wrap ((v : Int) + (x : Int)) = ((v + x : Nat) : Int) by rw [u64_wrap_small (by omega) (by omega)]; omega] at this)
theorem does_casy {S : Mem} {ws : List Int} (b j v n : Nat) (hb : b < 18446744073709551616) (hg : Mm.get S.L b = some ws) (hj : ws[j]? = some (v : Int)) (hj2 : j ≤ 1000000) : DoesIt S ⟨3, b, (j : Int), v, n⟩ v (S.put b j (n : Int)) :=
  fun B w p F h hB => dstep3 _ b (j : Int) v n (v : Int) 0 w _ (by omega) (by simp [Ac.right, Ac.known, Ac.fb, Ac.fc, Ac.fo, Ac.fn]) fun w1 hw1 => of_turns hw1 (cas_yes (ax_at hw1 h) hb hg j hj (n : Int))
theorem does_casn {S : Mem} {ws : List Int} (b j v o n : Nat) (hb : b < 18446744073709551616) (hg : Mm.get S.L b = some ws) (hj : ws[j]? = some (v : Int)) (hj2 : j ≤ 1000000) (ho : v ≠ o) : DoesIt S ⟨3, b, (j : Int), o, n⟩ v S :=
  fun B w p F h hB => dstep3 _ b (j : Int) o n (v : Int) 0 w _ (by omega) (by simp [Ac.right, Ac.known, Ac.fb, Ac.fc, Ac.fo, Ac.fn]) fun w1 hw1 => of_same hw1 (ax_at hw1 h) (cas_no (ax_at hw1 h) hb hg j hj (o : Int) (n : Int) (by omega))
theorem does_it {M : Mem} {x : A} {ws : List Int} (h : Mm.Ok M x ws) : DoesIt M x (Mm.ans M x : Nat) (Mm.aft M x) := by
  obtain ⟨xk, xb, xc, xo, xn⟩ := x
  obtain ⟨hb, hg, h0, h1, hl, hp, hf⟩ := h
  simp only at hb hg h0 h1 hl hp hf
  obtain ⟨j, hj⟩ : ∃ j : Nat, xc = (j : Int) := ⟨xc.toNat, by omega⟩
  subst hj
  rw [Int.toNat_natCast] at h1 hp hf
  have e : Mm.at_ M ⟨xk, xb, (j : Int), xo, xn⟩ = (ws.getD j 0).toNat := by unfold Mm.at_; simp only [hg, Int.toNat_natCast]
  have hv : ws[j]? = some (((ws.getD j 0).toNat : Nat) : Int) := by
    rw [List.getElem?_eq_getElem h1]
    rw [List.getD_eq_getElem?_getD, List.getElem?_eq_getElem h1] at hp ⊢
    simp only [Option.getD_some] at hp ⊢
    rw [Int.toNat_of_nonneg hp]
  unfold Mm.ans Mm.aft
  simp only [e, Int.toNat_natCast]
  rcases hf with ⟨rfl, rfl, rfl⟩ | ⟨rfl, rfl⟩ | rfl | ⟨rfl, rfl, hx⟩
  · exact does_load xb j _ hb hg hv (by omega)
  · exact does_store xb j xn hb hg h1 (by omega)
  · by_cases ho : (ws.getD j 0).toNat = xo
    · have := does_casy xb j (ws.getD j 0).toNat xn hb hg hv (by omega)
      simp only [ho, if_true] at this ⊢
      exact this
    · have := does_casn xb j (ws.getD j 0).toNat xo xn hb hg hv (by omega) ho
      simp only [ho, if_false] at this ⊢
      exact this
  · exact does_add xb j _ xn hb hg hv (by omega) hx
end Go.Proofs.YtknefjigdlbacaaGreatDoor
