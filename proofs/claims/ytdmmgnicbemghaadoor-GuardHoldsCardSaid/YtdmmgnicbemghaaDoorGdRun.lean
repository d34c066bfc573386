/-
  A guard as a routine on an arena that holds one desk; one act of it, done alone. By an AI agent.
-/
import Derived.Test.YtdmmgnicbemghaaDoorMkAlone
import Derived.Test.YtdmmgnicbemghaaDoorGdBase
import Derived.Test.YtdmmgnicbemghaaDoorGdSolo
set_option linter.unusedSimpArgs false
set_option linter.unusedVariables false
namespace Go.Proofs.YtdmmgnicbemghaaDoor
open Go.RowKit Go.Maps
open Mm (Mem Blk)
open Ac (A)
theorem does_load {S : Mem} {ws : List Int} (b j v : Nat) (hb : b < 18446744073709551616) (hg : Mm.get S.L b = some ws) (hj : ws[j]? = some (v : Int)) (hj2 : j ≤ 1000000) : DoesIt S ⟨1, b, (j : Int), 0, 0⟩ v S :=
  fun B w p F h hB => dstep1 _ b (j : Int) 0 0 (v : Int) 0 w _ (by omega) (by simp [Ac.right, Ac.known, Ac.fb, Ac.fc, Ac.fo, Ac.fn]) fun w1 hw1 => of_same hw1 (ax_at hw1 h) (load_ok (ax_at hw1 h) hb hg j hj)
/-- An arena with one block. -/
abbrev Mg (ws : List Int) : Mem := ⟨200, 1, 0, [(1, ws)]⟩
theorem mg_put (ws : List Int) (i : Nat) (v : Int) : (Mg ws).put 1 i v = Mg (ws.set i v) := by simp [Mem.put, Mm.put]
theorem mg_get (ws : List Int) : Mm.get (Mg ws).L 1 = some ws := by simp [Mm.get]
theorem mg_store (ws : List Int) (i v : Nat) (hi : i < ws.length) (hi2 : i ≤ 1000000) : DoesIt (Mg ws) ⟨2, 1, (i : Int), 0, v⟩ 0 (Mg (ws.set i (v : Int))) := by
  have := does_store (S := Mg ws) (ws := ws) 1 i v (by omega) (mg_get ws) hi hi2
  rwa [mg_put] at this
/-- A guard's acts, counted by what its block holds. -/
def gat (q N R : Nat) (w : World) : Nat := match w.cell? ⟨q, 0, none⟩, w.cell? ⟨q, 3, none⟩ with
  | some (.int _ p), some (.int _ r) => N - Gd.rem ⟨p.toNat, r.toNat⟩ R
  | _, _ => N
def GSt (q c R : Nat) (s : Gd.S) (B : Nat) (w : World) (k : Nat) (H : Nat → Prop) : Prop := k ≤ Gd.rem s R ∧ B ≤ q ∧ Gb w q (Gd.go s R k) 1 (c : Int) ∧ H = fun j => j = q
theorem gat_eq {q c R : Nat} {s : Gd.S} (hs : 1 ≤ s.p ∧ s.p ≤ 4) {B k : Nat} {w : World} {H : Nat → Prop} (h : GSt q c R s B w k H) : gat q (Gd.rem s R) R w = k := by
  obtain ⟨hk, hq, h, -⟩ := h
  unfold gat
  rw [h.c0, h.c3]
  show Gd.rem s R - Gd.rem ⟨((Gd.go s R k).p : Int).toNat, ((Gd.go s R k).r : Int).toNat⟩ R = k
  rw [Int.toNat_natCast, Int.toNat_natCast]
  show Gd.rem s R - Gd.rem (Gd.go s R k) R = k
  rw [Gd.rem_go R hs]
  omega
/-- A guard, as a routine that nobody disturbs. -/
def grt (q c R : Nat) (s : Gd.S) (hs : 1 ≤ s.p ∧ s.p ≤ 4) : Rt where
  v := rv q
  N := Gd.rem s R
  xs := fun k => Gd.act 1 (c : Int) (Gd.go s R k)
  vs := fun k => ((Gd.ans (Gd.go s R k) R : Nat) : Int)
  St := GSt q c R s
  at' := gat q (Gd.rem s R) R
  one := rfl
  foot := by
    rintro B w k H j ⟨hk, hq, h, rfl⟩ rfl
    exact ⟨hq, h.lt⟩
  keep := by
    rintro B w w' k H ⟨hk, hq, h, rfl⟩ hj
    exact ⟨hk, hq, h.keep (hj q rfl), rfl⟩
  at_eq := gat_eq hs
  norec := by
    rintro B w k H j o ⟨hk, hq, h, rfl⟩ rfl ho
    have := (show w.heap[_]? = _ from h).symm.trans ho
    injection this with this
    subst this; rfl
  next := by
    rintro B w k H ⟨hk, hq, h, rfl⟩ hN
    have e : (if k < Gd.rem s R then Gd.act 1 (c : Int) (Gd.go s R k) else ⟨0, 0, 0, 0, 0⟩) = Gd.act 1 (c : Int) (Gd.go s R k) := by
      by_cases hc : k < Gd.rem s R
      · rw [if_pos hc]
      · rw [if_neg hc, Gd.act_none]; rw [← Gd.go_more R hs]; exact decide_eq_false hc
    rw [e, Gd.go_more R hs]
    exact next_some q _ _ w fun w1 hb => gact_any (h.below hb) (Gd.go_p R hs k).2
  take := by
    rintro B w k H ⟨hk, hq, h, rfl⟩ hB hN
    refine take_some q _ w _ ((gtake_any h (Gd.go_p R hs k).2 _).mono ?_)
    rintro e w' ⟨rfl, hm, hc⟩
    exact ⟨rfl, _, ⟨hN, hq, hm, rfl⟩, hc⟩
theorem solo_does {c R : Nat} {s : Gd.S} {ws : List Int} (hs : 1 ≤ s.p ∧ s.p ≤ 4) (hc : c ≠ 0) (hc2 : c < ws.length) (hc3 : c ≤ 1000) (hr : ws[0]? = some (R : Int)) : ∀ k, k < Gd.rem s R → DoesIt (Mg (Gd.cells s R c ws k)) (Gd.act 1 (c : Int) (Gd.go s R k)) ((Gd.ans (Gd.go s R k) R : Nat) : Int) (Mg (Gd.cells s R c ws (k + 1))) := by
  intro k hk
  have h0 : (Gd.cells s R c ws k)[0]? = some (R : Int) := by rw [Gd.cells_zero _ _ _ _ hc]; exact hr
  have hl : c < (Gd.cells s R c ws k).length := by rw [Gd.cells_len]; exact hc2
  have hm : Gd.more (Gd.go s R k) = true := by rw [← Gd.go_more R hs]; exact decide_eq_true hk
  show DoesIt _ _ _ (Mg (if (Gd.go s R k).p = 2 then (Gd.cells s R c ws k).set c (((Gd.go s R k).r : Nat) : Int) else Gd.cells s R c ws k))
  generalize Gd.cells s R c ws k = W at *
  obtain e | e | e | e := Gd.parts (Gd.go_p R hs k) <;> rw [e] at hm ⊢
  · exact does_load 1 0 R (by omega) (mg_get W) h0 (by omega)
  · exact mg_store W c _ hl (by omega)
  · exact does_load 1 0 R (by omega) (mg_get W) h0 (by omega)
  · cases hm
/-- One act, done alone. -/
def Did1 (B p q c R : Nat) (s : Gd.S) (ws : List Int) (F : Nat → Prop) (w : World) (e : Ending) (w' : World) : Prop :=
  e = .returned (.tuple #[.int .i64 1, .bool (decide (Gd.rem s R = 1))]) ∧ ∃ F', Ax B w' p (Mg (Gd.cells s R c ws 1)) F' ∧ Gb w' q (Gd.go s R 1) 1 (c : Int) ∧ ¬ F' q ∧ Below B w w'
theorem galone {B : Nat} {w : World} {p q c R : Nat} {s : Gd.S} {ws : List Int} {F : Nat → Prop} (ha : Ax B w p (Mg ws) F) (hg : Gb w q s 1 (c : Int)) (hq : B ≤ q) (hap : ¬ F q) (hB : B ≤ w.heap.size) (hs : 1 ≤ s.p ∧ s.p ≤ 4) (hm : 1 ≤ Gd.rem s R) (hc : c ≠ 0) (hc2 : c < ws.length) (hc3 : c ≤ 1000) (hr : ws[0]? = some (R : Int)) :
    Calls Tryd.prog 16 #[.pointer (some ⟨p, 0, none⟩), rv q, .int .i64 1] w (Did1 B p q c R s ws F w) := by
  have hdu : Du (grt q c R s hs) B w p ((fun k => Mg (Gd.cells s R c ws k)) 0) 0 F (fun j => j = q) := ⟨ha, ⟨Nat.zero_le _, hq, hg, rfl⟩, by rintro k rfl; exact hap⟩
  refine (alone_any (grt q c R s hs) (Sm := fun k => Mg (Gd.cells s R c ws k)) hdu hB 1 (by show Gd.rem s R ≤ 1000; have := Gd.rem_le s R; omega) (solo_does hs hc hc2 hc3 hr)).mono ?_
  rintro e w' ⟨he, F', H', hd, ht⟩
  have hmin : min (1 : Int).toNat (grt q c R s hs).N = 1 := by show min (1 : Int).toNat (Gd.rem s R) = 1; omega
  rw [hmin] at he hd
  obtain ⟨hk, hq', hg', rfl⟩ := hd.ro
  refine ⟨?_, F', hd.ar, hg', fun e => hd.apart q rfl e, ht.below (fun k hk => (hdu.foot hk).1) hB⟩
  rw [he]
  have e1 : decide ((grt q c R s hs).N ≤ 1) = decide (Gd.rem s R = 1) := by
    show decide (Gd.rem s R ≤ 1) = _
    by_cases h1 : Gd.rem s R = 1
    · rw [decide_eq_true h1, decide_eq_true (by omega)]
    · rw [decide_eq_false h1, decide_eq_false (by omega)]
  rw [e1]
  rfl
end Go.Proofs.YtdmmgnicbemghaaDoor
