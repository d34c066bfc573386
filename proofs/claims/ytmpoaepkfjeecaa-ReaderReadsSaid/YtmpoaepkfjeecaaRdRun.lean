/-
  A maker on any arena with room for its box; a reader, done alone on the arena that has its box. By an AI agent.
-/
import Derived.Test.YtmpoaepkfjeecaaMkRun
import Derived.Test.YtmpoaepkfjeecaaRdNext
set_option linter.unusedSimpArgs false
set_option linter.unusedVariables false
namespace Go.Proofs.Ytmpoaepkfjeecaa
open Go.RowKit Go.Maps
open Mm (Mem Blk)
open Ac (A)
theorem Mm.put_none' : ∀ {l : List Blk} {n : Nat} (i : Nat) (v : Int), Mm.get l n = none → Mm.put l n i v = l
  | [], _, _, _, _ => rfl
  | b :: r, n, i, v, h => by
    unfold Mm.get at h
    unfold Mm.put
    split at h
    · cases h
    · rename_i e
      rw [if_neg e, Mm.put_none' i v h]
theorem Mm.put_append' : ∀ (l m : List Blk) (n i : Nat) (v : Int), Mm.put (l ++ m) n i v = Mm.put l n i v ++ Mm.put m n i v
  | [], _, _, _, _ => rfl
  | b :: r, m, n, i, v => by
    show _ :: Mm.put (r ++ m) n i v = _ :: (Mm.put r n i v ++ Mm.put m n i v)
    rw [Mm.put_append' r m n i v]
/-- The memory behind an Alloc and k stores. -/
def Smx (S : Mem) (ws : List Int) : Mem := ⟨S.room, S.last + 1, S.faults, S.L ++ [(S.last + 1, ws)]⟩
def Smg (S : Mem) (l : List Nat) : Nat → Mem
  | 0 => S
  | k + 1 => Smx S (row l k)
theorem smx_get {S : Mem} (hG : Mm.Good S) (ws : List Int) : Mm.get (Smx S ws).L (S.last + 1) = some ws := by
  show Mm.get (S.L ++ _) _ = _
  rw [Mm.get_append, Mm.new_get S hG]
  simp [Mm.get]
theorem smx_put {S : Mem} (hG : Mm.Good S) (ws : List Int) (i : Nat) (v : Int) : (Smx S ws).put (S.last + 1) i v = Smx S (ws.set i v) := by
  unfold Smx Mem.put
  simp only [Mm.put_append', Mm.put_none' i v (Mm.new_get S hG)]
  simp [Mm.put]
theorem smg_does {S : Mem} {l : List Nat} (hG : Mm.Good S) (hn : l.length ≤ S.room - Mm.used S.L) (hl : S.last ≤ 1000000000000) (h1 : 1 ≤ l.length) (h2 : l.length ≤ 1000) : ∀ k, k < cnt l.length (S.last + 1) → DoesIt (Smg S l k) (Kr.act l k (S.last + 1)) (((if k = 0 then S.last + 1 else 0 : Nat) : Nat) : Int) (Smg S l (k + 1))
  | 0, _ => by
    rw [Kr.act_zero, if_pos rfl]
    have := does_alloc hG l.length h1 hn hl
    rw [show ((S.last + 1 : Nat) : Int) = (S.last : Int) + 1 by omega]
    exact this
  | k + 1, hk => by
    have hm := (Kr.more_succ (n := l.length) (j := k) (b := S.last + 1)).1 (by rw [← more_cnt]; exact decide_eq_true hk)
    rw [Kr.act_store hm.1 hm.2, if_neg (by omega)]
    show DoesIt (Smx S (row l k)) _ _ (Smx S ((row l k).set k ((l.getD k 0 : Nat) : Int)))
    rw [← smx_put hG]
    exact does_store (S := Smx S (row l k)) (ws := row l k) (S.last + 1) k (l.getD k 0) (by omega) (smx_get hG _) (by rw [row_len]; exact hm.2) (by omega)
/-- What a maker leaves that was done alone. -/
def Ran2 (B p q g : Nat) (S : Mem) (l : List Nat) (F : Nat → Prop) (w : World) (e : Ending) (w' : World) : Prop :=
  e = .returned (.tuple #[.int .i64 ((l.length + 1 : Nat) : Int), .bool true]) ∧ ∃ F' H' g' c', Ax B w' p (Smx S (Kr.up l)) F' ∧ Mst B w' q l g' c' (l.length + 1) (S.last + 1) ∧ (∀ k, F' k → B ≤ k ∧ k < w'.heap.size) ∧ Tn (Or2 F (fun j => j = q ∨ j = g)) (Or2 F' H') w w'
theorem kalone2 {B : Nat} {w : World} {p q g c : Nat} {S : Mem} {l : List Nat} {F : Nat → Prop} (ha : Ax B w p S F) (hm : Mst B w q l g c 0 0) (hap : ¬ F q ∧ ¬ F g) (hB : B ≤ w.heap.size) (hG : Mm.Good S) (hn : l.length ≤ S.room - Mm.used S.L) (hl : S.last ≤ 1000000000000) (h1 : 1 ≤ l.length) (h2 : l.length ≤ 6) (most : Int) (hmost : 7 ≤ most) :
    Calls Try.prog 13 #[.pointer (some ⟨p, 0, none⟩), rv q, .int .i64 most] w (Ran2 B p q g S l F w) := by
  have hN : cnt l.length (S.last + 1) = l.length + 1 := by unfold cnt; rw [if_neg (by omega)]
  have hst : KSt q l (S.last + 1) B w 0 (fun j => j = q ∨ j = g) := ⟨Nat.zero_le _, g, c, ⟨hm.qB, hm.gB, hm.ne, by have := hm.own; rw [Kr.act_zero] at this ⊢; exact this, hm.ltg, hm.wds⟩, rfl⟩
  have hdu : Du (krt q l (S.last + 1) h1 (by omega)) B w p (Smg S l 0) 0 F (fun j => j = q ∨ j = g) := ⟨ha, hst, by rintro k (rfl | rfl); exact hap.1; exact hap.2⟩
  refine (alone_any (krt q l (S.last + 1) h1 (by omega)) (Sm := Smg S l) hdu hB most (by show cnt l.length (S.last + 1) ≤ 1000; omega) (smg_does hG hn hl h1 (by omega))).mono ?_
  rintro e w' ⟨he, F', H', hd, ht⟩
  have hmin : min most.toNat (krt q l (S.last + 1) h1 (by omega)).N = l.length + 1 := by show min most.toNat (cnt l.length (S.last + 1)) = _; omega
  rw [hmin] at he hd
  obtain ⟨hk, g', c', hm', -⟩ := hd.ro
  have har : Ax B w' p (Smx S (row l l.length)) F' := hd.ar
  rw [row_up] at har
  refine ⟨?_, F', H', g', c', har, hm', fun k hk => har.foot hk, ht⟩
  rw [he, decide_eq_true (show (krt q l (S.last + 1) h1 (by omega)).N ≤ l.length + 1 by show cnt l.length (S.last + 1) ≤ _; omega)]
theorem does_load {S : Mem} {ws : List Int} (b j v : Nat) (hb : b < 18446744073709551616) (hg : Mm.get S.L b = some ws) (hj : ws[j]? = some (v : Int)) (hj2 : j ≤ 1000000) : DoesIt S ⟨1, b, (j : Int), 0, 0⟩ v S :=
  fun B w p F h hB => dstep1 _ b (j : Int) 0 0 (v : Int) 0 w _ (by omega) (by simp [Ac.right, Ac.known, Ac.fb, Ac.fc, Ac.fo, Ac.fn]) fun w1 hw1 => of_same hw1 (ax_at hw1 h) (load_ok (ax_at hw1 h) hb hg j hj)
/-- A reader's acts, counted by what its block holds. -/
def rat (q N : Nat) (w : World) : Nat := match w.cell? ⟨q, 0, none⟩, w.cell? ⟨q, 2, none⟩ with
  | some (.int _ 1), some (.int _ i) => i.toNat
  | _, _ => N
def RSt (q b : Nat) (gs : List Nat) (B : Nat) (w : World) (k : Nat) (H : Nat → Prop) : Prop := k ≤ Rd.sz gs ∧ ∃ ad c, Rst B w q b gs k ad c ∧ H = Rst.F q gs k ad c
theorem rat_eq {q b B k : Nat} {gs : List Nat} {w : World} {H : Nat → Prop} (h : RSt q b gs B w k H) : rat q (Rd.sz gs) w = k := by
  obtain ⟨hk, ad, c, h, -⟩ := h
  unfold rat
  rw [h.own.c0, h.own.c2]
  by_cases hs : k < Rd.sz gs
  · rw [Rd.act_yes hs]; rfl
  · rw [Rd.act_no hs]; show Rd.sz gs = k; omega
/-- A reader, as a routine. -/
def rrt (q b : Nat) (gs : List Nat) (hsz : Rd.sz gs ≤ gs.length) (hw : ∀ x ∈ gs, x < 18446744073709551616) : Rt where
  v := rvr q
  N := Rd.sz gs
  xs := fun k => Rd.act b gs k
  vs := fun k => ((gs.getD k 0 : Nat) : Int)
  St := RSt q b gs
  at' := rat q (Rd.sz gs)
  one := rfl
  foot := by
    rintro B w k H j ⟨hk, ad, c, h, rfl⟩ hj
    exact h.foot hj
  keep := by
    rintro B w w' k H ⟨hk, ad, c, h, rfl⟩ hj
    exact ⟨hk, ad, c, h.keep hj, rfl⟩
  at_eq := rat_eq
  norec := by
    rintro B w k H j o ⟨hk, ad, c, h, rfl⟩ (rfl | hj) ho
    · have := h.own.symm.trans ho
      injection this with this
      subst this; rfl
    · rcases h.row.2 with ⟨h0, _⟩ | ⟨g, cap, cur, e1, _, hg, _⟩
      · rw [h0] at hj; cases hj
      · rw [e1] at hj
        injection hj with hj
        subst hj
        have := hg.symm.trans ho
        injection this with this
        subst this; rfl
  next := by
    rintro B w k H ⟨hk, ad, c, h, rfl⟩ hN
    have e : (if k < Rd.sz gs then Rd.act b gs k else ⟨0, 0, 0, 0, 0⟩) = Rd.act b gs k := by
      by_cases hc : k < Rd.sz gs
      · rw [if_pos hc]
      · rw [if_neg hc, Rd.act_no hc]
    rw [e]
    exact rnext_some q _ _ w fun w1 hb => rdact_any (h.below hb)
  take := by
    rintro B w k H ⟨hk, ad, c, h, rfl⟩ hB hN
    refine rtake_some q _ w _ ((rtake_any h hw (by omega) hB).mono ?_)
    rintro e w' ⟨rfl, ad', c', hm, hc⟩
    exact ⟨rfl, _, ⟨hN, ad', c', hm, rfl⟩, hc⟩
/-- What a reader leaves that was done alone. -/
def Rdone (B p q b : Nat) (S : Mem) (gs : List Nat) (F H : Nat → Prop) (w : World) (e : Ending) (w' : World) : Prop :=
  e = .returned (.tuple #[.int .i64 ((gs.length : Nat) : Int), .bool true]) ∧ Below B w w' ∧ ∃ F' H', Ax B w' p S F' ∧ Tn (Or2 F H) (Or2 F' H') w w' ∧ ∃ ad c, Rst B w' q b gs gs.length ad c
theorem ralone {B : Nat} {w : World} {p q b c : Nat} {S : Mem} {gs : List Nat} {F : Nat → Prop} {ad : Option Addr} (ha : Ax B w p S F) (hr : Rst B w q b gs 0 ad c) (hap : ∀ k, Rst.F q gs 0 ad c k → ¬ F k) (hB : B ≤ w.heap.size) (hb : b < 18446744073709551616) (hg : Mm.get S.L b = some (Kr.up gs)) (hsz : Rd.sz gs = gs.length) (hw : ∀ x ∈ gs, x < 18446744073709551616) (most : Int) (hmost : 6 ≤ most) :
    Calls Try.prog 13 #[.pointer (some ⟨p, 0, none⟩), rvr q, .int .i64 most] w (Rdone B p q b S gs F (Rst.F q gs 0 ad c) w) := by
  have hs := Rd.sz_bd gs
  have hdu : Du (rrt q b gs (by omega) hw) B w p ((fun _ => S) 0) 0 F (Rst.F q gs 0 ad c) := ⟨ha, ⟨Nat.zero_le _, ad, c, hr, rfl⟩, hap⟩
  refine (alone_any (rrt q b gs (by omega) hw) (Sm := fun _ => S) hdu hB most (by show Rd.sz gs ≤ 1000; omega) (fun k hk => ?_)).mono ?_
  · have hk : k < Rd.sz gs := hk
    show DoesIt S (Rd.act b gs k) _ S
    rw [Rd.act_yes hk]
    refine does_load b k (gs.getD k 0) hb hg ?_ (by omega)
    rw [List.getElem?_eq_getElem (by rw [Kr.up_len]; omega), Kr.up_get (by omega)]
  · rintro e w' ⟨he, F', H', hd, ht⟩
    have hmin : min most.toNat (rrt q b gs (by omega) hw).N = gs.length := by show min most.toNat (Rd.sz gs) = _; omega
    rw [hmin] at he hd
    obtain ⟨hk, ad', c', hm', -⟩ := hd.ro
    refine ⟨?_, ht.below (fun k hk => (hdu.foot hk).1) hB, F', H', hd.ar, ht, ad', c', hm'⟩
    rw [he]
    show Ending.returned (.tuple #[_, .bool (decide (Rd.sz gs ≤ _))]) = _
    rw [decide_eq_true (by omega)]
end Go.Proofs.Ytmpoaepkfjeecaa
