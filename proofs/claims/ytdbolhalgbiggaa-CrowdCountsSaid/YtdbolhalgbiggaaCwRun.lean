/-
  A crowd as a routine on an arena that holds one table; one that counts its acts alone; an add. By an AI agent.
-/
import Derived.Test.YtdbolhalgbiggaaMkAlone
import Derived.Test.YtdbolhalgbiggaaCwRef
set_option linter.unusedSimpArgs false
set_option linter.unusedVariables false
namespace Go.Proofs.Ytdbolhalgbiggaa
open Go.RowKit Go.Maps
open Mm (Mem Blk)
open Ac (A)
theorem does_load {S : Mem} {ws : List Int} (b j v : Nat) (hb : b < 18446744073709551616) (hg : Mm.get S.L b = some ws) (hj : ws[j]? = some (v : Int)) (hj2 : j ≤ 1000000) : DoesIt S ⟨1, b, (j : Int), 0, 0⟩ v S :=
  fun B w p F h hB => dstep1 _ b (j : Int) 0 0 (v : Int) 0 w _ (by omega) (by simp [Ac.right, Ac.known, Ac.fb, Ac.fc, Ac.fo, Ac.fn]) fun w1 hw1 => of_same hw1 (ax_at hw1 h) (load_ok (ax_at hw1 h) hb hg j hj)
theorem does_add {S : Mem} {ws : List Int} (b j v x : Nat) (hb : b < 18446744073709551616) (hg : Mm.get S.L b = some ws) (hj : ws[j]? = some (v : Int)) (hj2 : j ≤ 1000000) (hx : v + x < 18446744073709551616) : DoesIt S ⟨4, b, (j : Int), 0, x⟩ v (S.put b j ((v + x : Nat) : Int)) :=
  fun B w p F h hB => dstep4 _ b (j : Int) 0 x (v : Int) 0 w _ (by omega) (by simp [Ac.right, Ac.known, Ac.fb, Ac.fc, Ac.fo, Ac.fn]) fun w1 hw1 => of_turns hw1 (by
    have := add_ok (ax_at hw1 h) hb hg j hj (x : Int)
    rwa [show IntKind.u64.wrap ((v : Int) + (x : Int)) = ((v + x : Nat) : Int) by rw [u64_wrap]; omega] at this)
/-- An arena with one block. -/
abbrev Mg (ws : List Int) : Mem := ⟨200, 1, 0, [(1, ws)]⟩
theorem mg_put (ws : List Int) (i : Nat) (v : Int) : (Mg ws).put 1 i v = Mg (ws.set i v) := by simp [Mem.put, Mm.put]
theorem mg_get (ws : List Int) : Mm.get (Mg ws).L 1 = some ws := by simp [Mm.get]
/-- The four stripes of a table, and what they come to. -/
structure Stp (ws : List Int) (cs : List Nat) (n : Nat) : Prop where
  len : cs.length = 4
  at' : ∀ j, j < 4 → ws[3 + j]? = some ((cs.getD j 0 : Nat) : Int)
  all : cs.getD 0 0 + cs.getD 1 0 + cs.getD 2 0 + cs.getD 3 0 = n
theorem Stp.start {sz : Nat} (h : 7 ≤ sz) : Stp (List.replicate sz 0) [0, 0, 0, 0] 0 where
  len := rfl
  at' := fun j hj => by
    rw [List.getElem?_replicate, if_pos (by omega)]
    obtain rfl | rfl | rfl | rfl : j = 0 ∨ j = 1 ∨ j = 2 ∨ j = 3 := by omega
    all_goals rfl
  all := rfl
theorem four {cs : List Nat} (h : cs.length = 4) : ∃ a b c d, cs = [a, b, c, d] := by
  match cs, h with
  | [a, b, c, d], _ => exact ⟨a, b, c, d, rfl⟩
theorem Stp.one {ws : List Int} {cs : List Nat} {n : Nat} (h : Stp ws cs n) {j : Nat} (hj : j < 4) : Stp (ws.set (3 + j) ((cs.getD j 0 + 1 : Nat) : Int)) (cs.set j (cs.getD j 0 + 1)) (n + 1) where
  len := by rw [List.length_set]; exact h.len
  at' := fun i hi => by
    by_cases e : i = j
    · subst e
      have hl : 3 + i < ws.length := by have := h.at' i hi; exact (List.getElem?_eq_some_iff.1 this).1
      rw [List.getElem?_set_self hl, List.getD_eq_getElem?_getD (l := cs.set i _), List.getElem?_set_self (by rw [h.len]; exact hi)]
      rfl
    · rw [List.getElem?_set_ne (by omega), h.at' i hi, List.getD_eq_getElem?_getD (l := cs.set j _), List.getElem?_set_ne (by omega), ← List.getD_eq_getElem?_getD]
  all := by
    have := h.all
    obtain ⟨a, b, c, d, rfl⟩ := four h.len
    obtain rfl | rfl | rfl | rfl : j = 0 ∨ j = 1 ∨ j = 2 ∨ j = 3 := by omega
    all_goals (simp at this ⊢; omega)
theorem Stp.le {ws : List Int} {cs : List Nat} {n : Nat} (h : Stp ws cs n) {j : Nat} (hj : j < 4) : cs.getD j 0 ≤ n := by
  have := h.all
  obtain rfl | rfl | rfl | rfl : j = 0 ∨ j = 1 ∨ j = 2 ∨ j = 3 := by omega
  all_goals omega
theorem Stp.sum {ws : List Int} {cs : List Nat} {n : Nat} (h : Stp ws cs n) (hn : n < 18446744073709551616) : Cw.sum cs = n := by
  unfold Cw.sum; rw [h.all]; omega
/-- A crowd that was told k of the four stripes. -/
def CSt (q : Nat) (l : Int) (cs : List Nat) (B : Nat) (w : World) (k : Nat) (H : Nat → Prop) : Prop := k ≤ 4 ∧ B ≤ q ∧ Cb w q 1 l (cs.take k) ∧ H = fun j => j = q
def cat' (q : Nat) (w : World) : Nat := match w.cell? ⟨q, 6, none⟩ with
  | some (.int _ r) => r.toNat
  | _ => 0
theorem cat_eq {q : Nat} {l : Int} {cs : List Nat} (hc : cs.length = 4) {B k : Nat} {w : World} {H : Nat → Prop} (h : CSt q l cs B w k H) : cat' q w = k := by
  obtain ⟨hk, hq, h, -⟩ := h
  unfold cat'
  rw [h.c6]
  show (((cs.take k).length : Nat) : Int).toNat = k
  rw [Int.toNat_natCast, List.length_take]
  omega
theorem take_len {cs : List Nat} (hc : cs.length = 4) {k : Nat} (hk : k ≤ 4) : (cs.take k).length = k := by rw [List.length_take]; omega
/-- A crowd, as a routine that nobody disturbs. -/
def crt (q : Nat) (l : Int) (cs : List Nat) (hr : Tb.right ((1 : Nat) : Int) (Tb.grp l) = true) (hc : cs.length = 4) : Rt where
  v := rv q
  N := 4
  xs := fun k => Cw.act 1 (cs.take k)
  vs := fun k => ((cs.getD k 0 : Nat) : Int)
  St := CSt q l cs
  at' := cat' q
  one := rfl
  foot := by
    rintro B w k H j ⟨hk, hq, h, rfl⟩ rfl
    exact ⟨hq, h.lt⟩
  keep := by
    rintro B w w' k H ⟨hk, hq, h, rfl⟩ hj
    exact ⟨hk, hq, h.keep (hj q rfl), rfl⟩
  at_eq := cat_eq hc
  norec := by
    rintro B w k H j o ⟨hk, hq, h, rfl⟩ rfl ho
    have := (show w.heap[_]? = _ from h).symm.trans ho
    injection this with this
    subst this; rfl
  next := by
    rintro B w k H ⟨hk, hq, h, rfl⟩ hN
    have hm : Cw.more (cs.take k) = decide (k < 4) := by unfold Cw.more; rw [take_len hc hk]
    have e : (if k < 4 then Cw.act 1 (cs.take k) else ⟨0, 0, 0, 0, 0⟩) = Cw.act 1 (cs.take k) := by
      by_cases hc4 : k < 4
      · rw [if_pos hc4]
      · rw [if_neg hc4, Cw.act_none]; rw [hm]; exact decide_eq_false hc4
    rw [e, ← hm]
    exact next_some q _ _ w fun w1 hb => cact_any (h.below hb) hr (by rw [take_len hc hk]; exact hk)
  take := by
    rintro B w k H ⟨hk, hq, h, rfl⟩ hB hN
    refine take_some q _ w _ ((ctake_any h hr (by rw [take_len hc hk]; exact hk) _).mono ?_)
    rintro e w' ⟨rfl, hm, hch⟩
    have e1 : Cw.step (cs.take k) (cs.getD k 0) = cs.take (k + 1) := by
      rw [Cw.step_yes (by rw [take_len hc hk]; exact hN), List.take_add_one, List.getD_eq_getElem?_getD, List.getElem?_eq_getElem (by rw [hc]; exact hN)]
      rfl
    rw [e1] at hm
    exact ⟨rfl, _, ⟨hN, hq, hm, rfl⟩, hch⟩
/-- What a crowd leaves that was done alone. -/
def Cdone (B p q : Nat) (l : Int) (ws : List Int) (cs : List Nat) (F : Nat → Prop) (w : World) (e : Ending) (w' : World) : Prop :=
  e = .returned (.tuple #[.int .i64 4, .bool true]) ∧ Below B w w' ∧ ∃ F' H', Ax B w' p (Mg ws) F' ∧ Tn (Or2 F (fun j => j = q)) (Or2 F' H') w w' ∧ Cb w' q 1 l cs
theorem calone {B : Nat} {w : World} {p q n : Nat} {l : Int} {ws : List Int} {cs : List Nat} {F : Nat → Prop} (ha : Ax B w p (Mg ws) F) (hg : Cb w q 1 l []) (hq : B ≤ q) (hap : ¬ F q) (hB : B ≤ w.heap.size) (hr : Tb.right ((1 : Nat) : Int) (Tb.grp l) = true) (hs : Stp ws cs n) :
    Calls Try.prog 17 #[.pointer (some ⟨p, 0, none⟩), rv q, .int .i64 9] w (Cdone B p q l ws cs F w) := by
  have hdu : Du (crt q l cs hr hs.len) B w p ((fun _ => Mg ws) 0) 0 F (fun j => j = q) := ⟨ha, ⟨Nat.zero_le _, hq, hg, rfl⟩, by rintro k rfl; exact hap⟩
  refine (alone_any (crt q l cs hr hs.len) (Sm := fun _ => Mg ws) hdu hB 9 (by show 4 ≤ 1000; omega) (fun k hk => ?_)).mono ?_
  · have hk : k < 4 := hk
    show DoesIt (Mg ws) (Cw.act 1 (cs.take k)) ((cs.getD k 0 : Nat) : Int) (Mg ws)
    rw [Cw.act_yes (by rw [take_len hs.len (by omega)]; exact hk), take_len hs.len (by omega)]
    exact does_load 1 (3 + k) (cs.getD k 0) (by omega) (mg_get ws) (hs.at' k hk) (by omega)
  · rintro e w' ⟨he, F', H', hd, ht⟩
    obtain ⟨hk, hq', hg', rfl⟩ := hd.ro
    refine ⟨he, ht.below (fun k hk => (hdu.foot hk).1) hB, F', _, hd.ar, ht, ?_⟩
    have hg' : Cb w' q 1 l (cs.take 4) := hg'
    rwa [List.take_of_length_le (by rw [hs.len]; omega)] at hg'
theorem cadd {ws : List Int} {cs : List Nat} {n j : Nat} (hs : Stp ws cs n) (hn : n ≤ 1000) (hj : j < 4) : DoesIt (Mg ws) ⟨4, 1, ((3 + j : Nat) : Int), 0, 1⟩ ((cs.getD j 0 : Nat) : Int) (Mg (ws.set (3 + j) ((cs.getD j 0 + 1 : Nat) : Int))) := by
  have := does_add (S := Mg ws) (ws := ws) 1 (3 + j) (cs.getD j 0) 1 (by omega) (mg_get ws) (hs.at' j hj) (by omega) (by have := hs.le hj; omega)
  rwa [mg_put] at this
end Go.Proofs.Ytdbolhalgbiggaa
