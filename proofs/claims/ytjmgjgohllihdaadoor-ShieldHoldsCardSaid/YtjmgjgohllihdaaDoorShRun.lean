/-
  A shield as a routine on an arena that holds a desk and a slot; one act of it, done alone. By an AI agent.
-/
import Derived.Test.YtjmgjgohllihdaaDoorMkAlone
import Derived.Test.YtjmgjgohllihdaaDoorShAct
import Derived.Test.YtjmgjgohllihdaaDoorShSolo
set_option linter.unusedSimpArgs false
set_option linter.unusedVariables false
namespace Go.Proofs.YtjmgjgohllihdaaDoor
open Go.RowKit Go.Maps
open Mm (Mem Blk)
open Ac (A)
theorem does_load {S : Mem} {ws : List Int} (b j v : Nat) (hb : b < 18446744073709551616) (hg : Mm.get S.L b = some ws) (hj : ws[j]? = some (v : Int)) (hj2 : j ≤ 1000000) : DoesIt S ⟨1, b, (j : Int), 0, 0⟩ v S :=
  fun B w p F h hB => dstep1 _ b (j : Int) 0 0 (v : Int) 0 w _ (by omega) (by simp [Ac.right, Ac.known, Ac.fb, Ac.fc, Ac.fo, Ac.fn]) fun w1 hw1 => of_same hw1 (ax_at hw1 h) (load_ok (ax_at hw1 h) hb hg j hj)
/-- An arena with two blocks: the desk, and the slot. -/
abbrev Mg (ws : List Int) (V : Nat) : Mem := ⟨200, 2, 0, [(1, ws), (2, [(V : Int)])]⟩
theorem mg_put1 (ws : List Int) (V i : Nat) (v : Int) : (Mg ws V).put 1 i v = Mg (ws.set i v) V := by simp [Mem.put, Mm.put]
theorem mg_put2 (ws : List Int) (V v : Nat) : (Mg ws V).put 2 0 (v : Int) = Mg ws v := by simp [Mem.put, Mm.put]
theorem mg_get1 (ws : List Int) (V : Nat) : Mm.get (Mg ws V).L 1 = some ws := by simp [Mm.get]
theorem mg_get2 (ws : List Int) (V : Nat) : Mm.get (Mg ws V).L 2 = some [(V : Int)] := by simp [Mm.get]
theorem mg_store1 (ws : List Int) (V i v : Nat) (hi : i < ws.length) (hi2 : i ≤ 1000000) : DoesIt (Mg ws V) ⟨2, 1, (i : Int), 0, v⟩ 0 (Mg (ws.set i (v : Int)) V) := by
  have := does_store (S := Mg ws V) (ws := ws) 1 i v (by omega) (mg_get1 ws V) hi hi2
  rwa [mg_put1] at this
theorem mg_store2 (ws : List Int) (V v : Nat) : DoesIt (Mg ws V) ⟨2, 2, 0, 0, v⟩ 0 (Mg ws v) := by
  have := does_store (S := Mg ws V) (ws := [(V : Int)]) 2 0 v (by omega) (mg_get2 ws V) (by simp) (by omega)
  rwa [mg_put2] at this
/-- A shield's acts, counted by what its block holds. -/
def sat (q N V : Nat) (w : World) : Nat := match w.cell? ⟨q, 0, none⟩, w.cell? ⟨q, 3, none⟩ with
  | some (.int _ p), some (.int _ r) => N - Sh.rem ⟨p.toNat, r.toNat⟩ V
  | _, _ => N
def SSt (q c V : Nat) (s : Sh.S) (B : Nat) (w : World) (k : Nat) (H : Nat → Prop) : Prop := k ≤ Sh.rem s V ∧ B ≤ q ∧ Sb w q (Sh.go s V k) 1 (c : Int) 2 0 ∧ H = fun j => j = q
theorem sat_eq {q c V : Nat} {s : Sh.S} (hs : 1 ≤ s.p ∧ s.p ≤ 3) {B k : Nat} {w : World} {H : Nat → Prop} (h : SSt q c V s B w k H) : sat q (Sh.rem s V) V w = k := by
  obtain ⟨hk, hq, h, -⟩ := h
  unfold sat
  rw [h.c0, h.c3]
  show Sh.rem s V - Sh.rem ⟨((Sh.go s V k).p : Int).toNat, ((Sh.go s V k).r : Int).toNat⟩ V = k
  rw [Int.toNat_natCast, Int.toNat_natCast]
  show Sh.rem s V - Sh.rem (Sh.go s V k) V = k
  rw [Sh.rem_go V hs]
  omega
/-- A shield, as a routine that nobody disturbs. -/
def srt (q c V : Nat) (s : Sh.S) (hs : 1 ≤ s.p ∧ s.p ≤ 3) (hr : s.r < 18446744073709551616) (hV : V < 18446744073709551616) : Rt where
  v := rv q
  N := Sh.rem s V
  xs := fun k => Sh.act 1 (c : Int) 2 0 (Sh.go s V k)
  vs := fun k => ((Sh.ans (Sh.go s V k) V : Nat) : Int)
  St := SSt q c V s
  at' := sat q (Sh.rem s V) V
  one := rfl
  foot := by
    rintro B w k H j ⟨hk, hq, h, rfl⟩ rfl
    exact ⟨hq, h.lt⟩
  keep := by
    rintro B w w' k H ⟨hk, hq, h, rfl⟩ hj
    exact ⟨hk, hq, h.keep (hj q rfl), rfl⟩
  at_eq := sat_eq hs
  norec := by
    rintro B w k H j o ⟨hk, hq, h, rfl⟩ rfl ho
    have := (show w.heap[_]? = _ from h).symm.trans ho
    injection this with this
    subst this; rfl
  next := by
    rintro B w k H ⟨hk, hq, h, rfl⟩ hN
    have e : (if k < Sh.rem s V then Sh.act 1 (c : Int) 2 0 (Sh.go s V k) else ⟨0, 0, 0, 0, 0⟩) = Sh.act 1 (c : Int) 2 0 (Sh.go s V k) := by
      by_cases hc : k < Sh.rem s V
      · rw [if_pos hc]
      · rw [if_neg hc, Sh.act_none]; rw [← Sh.go_more V hs]; exact decide_eq_false hc
    rw [e, Sh.go_more V hs]
    exact next_some q _ _ w fun w1 hb => sact_any (h.below hb) (Sh.go_p V hs k).2 (Sh.go_r hr hV k)
  take := by
    rintro B w k H ⟨hk, hq, h, rfl⟩ hB hN
    refine take_some q _ w _ ((stake_any h (Sh.go_p V hs k).2 (Sh.go_r hr hV k) _ (Sh.ans_lt hV)).mono ?_)
    rintro e w' ⟨rfl, hm, hc⟩
    exact ⟨rfl, _, ⟨hN, hq, hm, rfl⟩, hc⟩
theorem solo_does {c V : Nat} {s : Sh.S} {ws : List Int} (hs : 1 ≤ s.p ∧ s.p ≤ 3) (hc2 : c < ws.length) (hc3 : c ≤ 1000) : ∀ k, k < Sh.rem s V → DoesIt (Mg (Sh.cells s V c ws k) V) (Sh.act 1 (c : Int) 2 0 (Sh.go s V k)) ((Sh.ans (Sh.go s V k) V : Nat) : Int) (Mg (Sh.cells s V c ws (k + 1)) V) := by
  intro k hk
  have hl : c < (Sh.cells s V c ws k).length := by rw [Sh.cells_len]; exact hc2
  have hm : Sh.more (Sh.go s V k) = true := by rw [← Sh.go_more V hs]; exact decide_eq_true hk
  show DoesIt _ _ _ (Mg (if (Sh.go s V k).p = 1 then (Sh.cells s V c ws k).set c (((Sh.go s V k).r / 8 : Nat) : Int) else Sh.cells s V c ws k) V)
  generalize Sh.cells s V c ws k = W at *
  obtain e | e | e := Sh.parts (Sh.go_p V hs k) <;> rw [e] at hm ⊢
  · exact mg_store1 W V c _ hl (by omega)
  · exact does_load 2 0 V (by omega) (mg_get2 W V) rfl (by omega)
  · cases hm
/-- One act, done alone. -/
def Did1 (B p q c V : Nat) (s : Sh.S) (ws : List Int) (F : Nat → Prop) (w : World) (e : Ending) (w' : World) : Prop :=
  e = .returned (.tuple #[.int .i64 ((min 1 (Sh.rem s V) : Nat) : Int), .bool (decide (Sh.rem s V ≤ 1))]) ∧ ∃ F', Ax B w' p (Mg (Sh.cells s V c ws (min 1 (Sh.rem s V))) V) F' ∧ Sb w' q (Sh.go s V (min 1 (Sh.rem s V))) 1 (c : Int) 2 0 ∧ ¬ F' q ∧ Below B w w'
theorem salone {B : Nat} {w : World} {p q c V : Nat} {s : Sh.S} {ws : List Int} {F : Nat → Prop} (ha : Ax B w p (Mg ws V) F) (hg : Sb w q s 1 (c : Int) 2 0) (hq : B ≤ q) (hap : ¬ F q) (hB : B ≤ w.heap.size) (hs : 1 ≤ s.p ∧ s.p ≤ 3) (hr : s.r < 18446744073709551616) (hV : V < 18446744073709551616) (hc2 : c < ws.length) (hc3 : c ≤ 1000) :
    Calls Tryd.prog 16 #[.pointer (some ⟨p, 0, none⟩), rv q, .int .i64 1] w (Did1 B p q c V s ws F w) := by
  have hdu : Du (srt q c V s hs hr hV) B w p ((fun k => Mg (Sh.cells s V c ws k) V) 0) 0 F (fun j => j = q) := ⟨ha, ⟨Nat.zero_le _, hq, hg, rfl⟩, by rintro k rfl; exact hap⟩
  refine (alone_any (srt q c V s hs hr hV) (Sm := fun k => Mg (Sh.cells s V c ws k) V) hdu hB 1 (by show Sh.rem s V ≤ 1000; have := Sh.rem_le s V; omega) (solo_does hs hc2 hc3)).mono ?_
  rintro e w' ⟨he, F', H', hd, ht⟩
  have hmin : min (1 : Int).toNat (srt q c V s hs hr hV).N = min 1 (Sh.rem s V) := rfl
  rw [hmin] at he hd
  obtain ⟨hk, hq', hg', rfl⟩ := hd.ro
  have e1 : decide ((srt q c V s hs hr hV).N ≤ min 1 (Sh.rem s V)) = decide (Sh.rem s V ≤ 1) := by
    show decide (Sh.rem s V ≤ min 1 (Sh.rem s V)) = _
    by_cases h : Sh.rem s V ≤ 1
    · rw [decide_eq_true h, decide_eq_true (by omega)]
    · rw [decide_eq_false h, decide_eq_false (by omega)]
  rw [e1] at he
  exact ⟨he, F', hd.ar, hg', fun e => hd.apart q rfl e, ht.below (fun k hk => (hdu.foot hk).1) hB⟩
end Go.Proofs.YtjmgjgohllihdaaDoor
