/-
  Several texts in one: A seek as a routine, along a course that is known; done alone; The statements' field (an arena with a desk and a table), and a box that is made there; Acts of one seek, one behind the other. Plain mathematics. By an AI agent.
-/
import Derived.Test.YtknefjigdlbacaaGreatDoorSkGBB
import Derived.Test.YtknefjigdlbacaaGreatDoorSkGBJ
import Derived.Test.YtknefjigdlbacaaGreatDoorSkGBL
import Derived.Test.YtknefjigdlbacaaGreatDoorSkGBF
import Derived.Test.YtknefjigdlbacaaGreatDoorSkGAE
set_option linter.unusedSimpArgs false
set_option linter.unusedVariables false
namespace Go.Proofs.YtknefjigdlbacaaGreatDoor
open Go.RowKit Go.Maps
open Mm (Mem Blk)
open Ac (A)
def natc (w : World) (a : Addr) : Nat := match w.cell? a with | some (.int _ x) => x.toNat | _ => 0
def ptrc (w : World) (a : Addr) : Nat := match w.cell? a with | some (.pointer (some b)) => b.block | _ => 0
/-- The same, read from a seek's block. -/
def muv (c : Sk.C) (q : Nat) (w : World) : Nat := mu' (Tb.grp c.lg) (natc w ⟨q, 0, none⟩) (natc w ⟨q, 12, none⟩) (natc w ⟨q, 14, none⟩) (natc w ⟨q, 15, none⟩) (natc w ⟨ptrc w ⟨q, 17, none⟩, 6, none⟩) (natc w ⟨ptrc w ⟨q, 18, none⟩, 0, none⟩) (natc w ⟨ptrc w ⟨q, 19, none⟩, 2, none⟩)
theorem natc_of {w : World} {a : Addr} {k : IntKind} {n : Nat} (h : w.cell? a = some (.int k (n : Int))) : natc w a = n := by unfold natc; rw [h]; simp
theorem ptrc_of {w : World} {a b : Addr} (h : w.cell? a = some (.pointer (some b))) : ptrc w a = b.block := by unfold ptrc; rw [h]
theorem mu_a {g p n i w a a' b b' r r' : Nat} (h2 : p = 2 → a = a') (h7 : p = 7 → b = b') (h8 : p = 8 → r = r') : mu' g p n i w a b r = mu' g p n i w a' b' r' := by
  unfold mu' pw
  by_cases e2 : p = 2
  · rw [h2 e2]; subst e2; rfl
  · by_cases e7 : p = 7
    · rw [h7 e7]; subst e7; rfl
    · by_cases e8 : p = 8
      · rw [h8 e8]; subst e8; rfl
      · simp only [e2, e7, e8, if_false]
theorem muv_eq {B : Nat} {w : World} {q : Nat} {c : Sk.C} {s : Sk.S} {H : Nat → Prop} (h : Ks B w q c s H) (hs : Sk.Wf c s) : muv c q w = mu c s := by
  obtain ⟨hq, vc, vs, vr, hb, h⟩ := h
  unfold muv mu
  rw [natc_of hb.c0, natc_of hb.c12, natc_of hb.c14, natc_of hb.c15]
  rcases h with ⟨h2, h7, h8, -⟩ | ⟨h2, qc, rfl, -, hc, -⟩ | ⟨h7, qs, rfl, -, hc, -⟩ | ⟨h8, qr, ad, cc, rfl, hc, -⟩
  · exact mu_a (fun e => absurd e h2) (fun e => absurd e h7) (fun e => absurd e h8)
  · refine mu_a (fun _ => ?_) (fun e => by omega) (fun e => by omega)
    rw [ptrc_of hb.c17]; exact natc_of hc.c6
  · refine mu_a (fun e => by omega) (fun _ => ?_) (fun e => by omega)
    rw [ptrc_of hb.c18]; exact natc_of hc.c0
  · refine mu_a (fun e => by omega) (fun e => by omega) (fun _ => ?_)
    rw [ptrc_of hb.c19]
    have := hc.own.c2
    rw [Rd.act_yes (hs.rd h8).1] at this
    exact natc_of this
theorem Ks.norec {B : Nat} {w : World} {q : Nat} {c : Sk.C} {s : Sk.S} {H : Nat → Prop} (h : Ks B w q c s H) {j : Nat} {o : Obj} (hj : H j) (ho : w.heap[j]? = some o) : isRec o = false := by
  obtain ⟨hq, vc, vs, vr, hb, h⟩ := h
  have cell : ∀ {cs : Array Value} {t : TypeId} {z : Nat × Nat}, w.heap[j]? = some (.cells cs t z) → isRec o = false := fun {cs t z} e => by
    have := e.symm.trans ho
    injection this with this
    subst this; rfl
  rcases h with ⟨-, -, -, rfl⟩ | ⟨-, qc, -, -, hc, rfl⟩ | ⟨-, qs, -, -, hc, rfl⟩ | ⟨-, qr, ad, cc, -, hc, rfl⟩
  · rw [show j = q from hj] at cell; exact cell hb
  · rcases hj with rfl | rfl
    · exact cell hb
    · exact cell hc
  · rcases hj with rfl | rfl
    · exact cell hb
    · exact cell hc
  · rcases hj with rfl | rfl | hj
    · exact cell hb
    · exact cell hc.own
    · rcases hc.row.2 with ⟨h0, _⟩ | ⟨g, cap, cur, e1, _, hg, _⟩
      · rw [h0] at hj; cases hj
      · rw [e1] at hj
        injection hj with hj
        subst hj
        exact cell hg
/-- A course of a seek: the states one behind the other, by what is answered. -/
structure Course (c : Sk.C) (s : Nat → Sk.S) (v : Nat → Nat) (N : Nat) : Prop where
  wf : ∀ k, k ≤ N → Sk.Wf c (s k)
  st : ∀ k, k < N → s (k + 1) = Sk.step c (s k) (v k)
  vb : ∀ k, k < N → v k < 18446744073709551616
  go : ∀ k, k < N → (s k).p ≠ 0
  fin : (s N).p = 0
  dec : ∀ k, k < N → mu c (s (k + 1)) < mu c (s k)
theorem Course.lt {c : Sk.C} {s : Nat → Sk.S} {v : Nat → Nat} {N : Nat} (h : Course c s v N) {i j : Nat} (hij : i < j) (hj : j ≤ N) : mu c (s j) < mu c (s i) := by
  induction j with
  | zero => omega
  | succ j ih =>
    have := h.dec j (by omega)
    by_cases e : i = j
    · subst e; exact this
    · exact Nat.lt_trans this (ih (by omega) (by omega))
theorem Course.inj {c : Sk.C} {s : Nat → Sk.S} {v : Nat → Nat} {N : Nat} (h : Course c s v N) {i j : Nat} (hi : i ≤ N) (hj : j ≤ N) (e : mu c (s i) = mu c (s j)) : i = j := by
  rcases Nat.lt_trichotomy i j with hl | hl | hl
  · have := h.lt hl hj; omega
  · exact hl
  · have := h.lt hl hi; omega
/-- What a seek's table and site may be. -/
structure Sit (c : Sk.C) : Prop where
  ok : Sk.Ok c
  tr : Tb.right (c.b : Int) (Tb.grp c.lg) = true
  dr : Dk.right c.d c.th c.nn c.kp = true
def SeSt (q : Nat) (c : Sk.C) (s : Nat → Sk.S) (N : Nat) (B : Nat) (w : World) (k : Nat) (H : Nat → Prop) : Prop := k ≤ N ∧ 0 < B ∧ Ks B w q c (s k) H ∧ Bd w
open Classical in
/-- How many acts are done, by what the block weighs. -/
noncomputable def sat (q : Nat) (c : Sk.C) (s : Nat → Sk.S) (N : Nat) (w : World) : Nat := if h : ∃ k, k ≤ N ∧ mu c (s k) = muv c q w then Classical.choose h else 0
theorem sat_eq {q : Nat} {c : Sk.C} {s : Nat → Sk.S} {v : Nat → Nat} {N : Nat} (hc : Course c s v N) {B k : Nat} {w : World} {H : Nat → Prop} (h : SeSt q c s N B w k H) : sat q c s N w = k := by
  obtain ⟨hk, -, h, -⟩ := h
  have e : ∃ j, j ≤ N ∧ mu c (s j) = muv c q w := ⟨k, hk, (muv_eq h (hc.wf k hk)).symm⟩
  unfold sat
  rw [dif_pos e]
  obtain ⟨h1, h2⟩ := Classical.choose_spec e
  exact hc.inj h1 hk (h2.trans (muv_eq h (hc.wf k hk)))
/-- A seek, as a routine. -/
noncomputable def srt (q : Nat) (c : Sk.C) (s : Nat → Sk.S) (v : Nat → Nat) (N : Nat) (hi : Sit c) (hc : Course c s v N) : Rt where
  v := rvk q
  N := N
  xs := fun k => Sk.act c (s k)
  vs := fun k => ((v k : Nat) : Int)
  St := SeSt q c s N
  at' := sat q c s N
  one := rfl
  foot := by
    rintro B w k H j ⟨hk, hl, h, hb⟩ hj
    exact h.foot hj
  keep := by
    rintro B w w' k H ⟨hk, hl, h, hb⟩ hj hbd
    exact ⟨hk, hl, h.keep hj, hbd hb⟩
  at_eq := sat_eq hc
  norec := by
    rintro B w k H j o ⟨hk, hl, h, hb⟩ hj ho
    exact h.norec hj ho
  next := by
    rintro B w k H ⟨hk, hl, h, hb⟩ hN
    have e : decide (k < N) = Sk.more (s k) := by
      unfold Sk.more
      by_cases hlt : k < N
      · rw [decide_eq_true hlt]; have := hc.go k hlt; symm; simpa using this
      · have : k = N := by omega
        subst this
        rw [decide_eq_false hlt, hc.fin]; rfl
    have e2 : (if k < N then Sk.act c (s k) else ⟨0, 0, 0, 0, 0⟩) = Sk.act c (s k) := by
      by_cases hlt : k < N
      · rw [if_pos hlt]
      · have : k = N := by omega
        subst this
        rw [if_neg hlt]
        unfold Sk.act
        simp [hc.fin]
    rw [e2, e]
    exact knext_some q _ _ w fun w1 hb1 => skact_any (h.below hb1) (hc.wf k hN) hi.ok hi.tr
  take := by
    rintro B w k H ⟨hk, hl, h, hb⟩ hB hN
    refine ktake_some q _ w _ ((sktake_any h (hc.wf k hk) hi.ok hi.tr hb hi.dr hB (v k) (hc.vb k hN)).mono ?_)
    rintro e w' ⟨rfl, H', hm, ht⟩
    rw [← hc.st k hN] at hm
    refine ⟨rfl, H', ⟨hN, hl, hm, hb.block (ht.block _ hb.lt (fun e => ?_))⟩, ht⟩
    have := (h.foot e).1
    omega
/-- What a seek done alone has come to. -/
def Sran (B p q : Nat) (c : Sk.C) (sN : Sk.S) (N : Nat) (M : Mem) (F H : Nat → Prop) (w : World) (e : Ending) (w' : World) : Prop :=
  e = .returned (.tuple #[.int .i64 (N : Int), .bool true]) ∧ ∃ F' H', Ax B w' p M F' ∧ Ks B w' q c sN H' ∧ Bd w' ∧ (∀ k, H' k → ¬ F' k) ∧ Tn (Or2 F H) (Or2 F' H') w w'
theorem skalone {B : Nat} {w : World} {p q N : Nat} {c : Sk.C} {s : Nat → Sk.S} {v : Nat → Nat} {Sm : Nat → Mem} {F H : Nat → Prop} (hi : Sit c) (hc : Course c s v N) (ha : Ax B w p (Sm 0) F) (hk : Ks B w q c (s 0) H) (hap : ∀ k, H k → ¬ F k) (hbd : Bd w) (hlow : 0 < B) (hB : B ≤ w.heap.size) (hN : N ≤ 1000)
    (hD : ∀ k, k < N → DoesIt (Sm k) (Sk.act c (s k)) (v k : Nat) (Sm (k + 1))) (most : Int) (hmost : (N : Int) ≤ most) :
    Calls Tryz.prog 17 #[.pointer (some ⟨p, 0, none⟩), rvk q, .int .i64 most] w (Sran B p q c (s N) N (Sm N) F H w) := by
  have hdu : Du (srt q c s v N hi hc) B w p (Sm 0) 0 F H := ⟨ha, ⟨Nat.zero_le _, hlow, hk, hbd⟩, hap, hlow⟩
  refine (alone_any (srt q c s v N hi hc) (Sm := Sm) hdu hB most hN hD).mono ?_
  rintro e w' ⟨he, F', H', hd, ht⟩
  have hmin : min most.toNat (srt q c s v N hi hc).N = N := by show min most.toNat N = N; omega
  rw [hmin] at he hd
  obtain ⟨-, -, hks, hbd'⟩ := hd.ro
  refine ⟨?_, F', H', hd.ar, hks, hbd', hd.apart, ht⟩
  rw [he, decide_eq_true (show (srt q c s v N hi hc).N ≤ N from Nat.le_refl N)]
end Go.Proofs.YtknefjigdlbacaaGreatDoor
set_option linter.unusedSimpArgs false
set_option linter.unusedVariables false
namespace Go.Proofs.YtknefjigdlbacaaGreatDoor
open Go.RowKit Go.Maps
open Mm (Mem Blk)
open Ac (A)
/-- The field's memory. -/
def Fm (cells dn tn log : Nat) : Mem := ⟨cells, 2, 0, [(1, ((List.replicate dn 0).set 0 2).set 1 16), (2, (List.replicate tn 0).set 0 (log : Int))]⟩
def Fielded (cells dn tn log : Nat) (w : World) (e : Ending) (w' : World) : Prop := ∃ p F, e = .returned (.tuple #[.pointer (some ⟨p, 0, none⟩), .agg #[.int .u64 2, .int .i64 (log : Int)]]) ∧ w.heap.size ≤ p ∧ Ax w.heap.size w' p (Fm cells dn tn log) F ∧ Below w.heap.size w w'
set_option maxRecDepth 100000 in
set_option maxHeartbeats 4000000 in
theorem kfield_any (cells th log : Nat) (w : World) (hbd : Bd w) (h1 : 1 ≤ cells) (h2 : cells ≤ 65536) (ht1 : 1 ≤ th) (ht2 : th ≤ 64) (hl : log ≤ 9) (hroom : (2 + 2 * th) + (7 + 9 * Tb.grp (log : Int)) ≤ cells) :
    Calls Tryz.prog 14 #[.int .i64 (cells : Int), .int .i64 (th : Int), .int .i64 (log : Int)] w (Fielded cells (2 + 2 * th) (7 + 9 * Tb.grp (log : Int)) log w) := by
  have hg : 1 ≤ Tb.grp (log : Int) := Tb.grp_pos (by omega) (by omega)
  obtain ⟨dn, hdn⟩ : ∃ dn, dn = 2 + 2 * th := ⟨_, rfl⟩
  obtain ⟨tn, htn⟩ : ∃ tn, tn = 7 + 9 * Tb.grp (log : Int) := ⟨_, rfl⟩
  rw [← hdn, ← htn] at hroom ⊢
  have KN := Lib.hid (fun W => new_ok cells h1 h2 W)
  have KD : Hid (∀ W, Bd W → Calls Tryz.prog 59 #[.int .i64 (th : Int)] W (Same (.int .i64 (dn : Int)) W)) := Lib.hid (fun W hb => by
    have := dsize_any (th : Int) W hb
    rwa [show Dk.size (th : Int) = (dn : Int) by unfold Dk.size; rw [if_pos (by omega)]; omega] at this)
  have KT : Hid (∀ W, Calls Tryz.prog 60 #[.int .i64 (log : Int)] W (Same (.int .i64 (tn : Int)) W)) := Lib.hid (fun W => by
    have := tsize_any (log : Int) W
    rwa [Tb.size_pos hg, show (7 + 9 * (Tb.grp (log : Int) : Int)) = (tn : Int) by omega] at this)
  have HBD := Lib.hid hbd
  have HR := Lib.hid (show 2 ≤ dn ∧ dn ≤ 130 ∧ 7 ≤ tn ∧ dn + tn ≤ cells ∧ cells ≤ 65536 ∧ log ≤ 9 by omega)
  have hlog : (log : Int) ≤ 9 := by omega
  clear hbd h1 h2 ht1 ht2 hl hroom hg hdn htn
  obtain ⟨W0, hW0⟩ : ∃ W0, W0 = w.alloc (.cells #[.int .u64 0, .int .i64 0] 24) := ⟨_, rfl⟩
  have hb0 : Below w.heap.size w W0 := by rw [hW0]; exact (Below.refl _ w).alloc (Nat.le_refl _) _
  have o0 : W0.heap[w.heap.size]? = some (.cells #[.int .u64 0, .int .i64 0] 24 (0, 0)) := by rw [hW0]; exact heap_alloc_new w _
  obtain ⟨B, hB⟩ : ∃ B, B = w.heap.size := ⟨_, rfl⟩
  rw [← hB] at hb0 o0
  have HB0 := Lib.hid hb0
  have HO0 := Lib.hid o0
  have HW0 := Lib.hid hW0
  have HBB := Lib.hid hB
  have hsz0 : W0.heap.size = B + 1 := by rw [hW0, hB, World.size_alloc]
  have HSZ0 := Lib.hid hsz0
  clear hb0 o0 hW0 hsz0
  go_enter Tryz.func14, Tryz.ntmps14
  go_wp2_with fail
  rw [show w.alloc (.cells #[.int .u64 0, .int .i64 0] 24) = W0 from HW0.out.symm, ← hB]
  with_reducible refine (KN.out W0).mono ?_
  rintro e w1 ⟨rfl, F1, hA1, hb1, hs1⟩
  obtain ⟨p, hp⟩ : ∃ p, p = W0.heap.size + 1 := ⟨_, rfl⟩
  rw [← hp] at hA1 ⊢
  obtain ⟨C, hC⟩ : ∃ C, C = W0.heap.size := ⟨_, rfl⟩
  rw [← hC] at hA1 hb1
  have HC := Lib.hid (show C = B + 1 ∧ B ≤ p ∧ C ≤ w1.heap.size by have := HSZ0.out; omega)
  have HA1 := Lib.hid hA1
  have HB1 := Lib.hid hb1
  have hbw1 : Below B w w1 := HB0.out.trans (hb1.mono (by have := HC.out; omega))
  have HBW1 := Lib.hid hbw1
  have K1 := Lib.hid (KD.out w1 (HBD.out.below (by rw [← HBB.out]; exact hbw1)))
  have K2 := Lib.hid (alloc_ok hA1 HC.out.2.2 dn (by have := HR.out; omega) (by show dn ≤ cells - 0; have := HR.out; omega) (by simp))
  clear hA1 hb1 hs1 hp hC hbw1 KN KD
  go_wp2_with fail
  with_reducible refine K1.out.mono ?_
  rintro e w1' ⟨rfl, rfl⟩
  go_wp2_with fail
  with_reducible refine K2.out.mono ?_
  rintro e w2 ⟨rfl, F2, hA2, ht2⟩
  have hA2 : Ax C w2 p ⟨cells, 1, 0, [(1, List.replicate dn 0)]⟩ F2 := hA2
  have hb2 : Below C w1 w2 := ht2.below (fun k hk => (HA1.out.foot hk).1) HC.out.2.2
  have HC2 := Lib.hid (show C ≤ w2.heap.size by have := hb2.size; have := HC.out; omega)
  have HA2 := Lib.hid hA2
  have HB2 := Lib.hid (HB1.out.trans hb2)
  have K3 := Lib.hid (KT.out w2)
  have K4 := Lib.hid (alloc_ok hA2 HC2.out tn (by have := HR.out; omega) (by show tn ≤ cells - ((List.replicate dn (0 : Int)).length + 0); rw [List.length_replicate]; have := HR.out; omega) (by simp))
  clear hA2 hb2 ht2 K1 K2 HA1 HB1
  go_wp2_with fail
  with_reducible refine K3.out.mono ?_
  rintro e w2' ⟨rfl, rfl⟩
  go_wp2_with fail
  with_reducible refine K4.out.mono ?_
  rintro e w3 ⟨rfl, F3, hA3, ht3⟩
  have hA3 : Ax C w3 p ⟨cells, 2, 0, [(1, List.replicate dn 0), (2, List.replicate tn 0)]⟩ F3 := hA3
  have hb3 : Below C w2 w3 := ht3.below (fun k hk => (HA2.out.foot hk).1) HC2.out
  obtain ⟨W3, hW3⟩ : ∃ W3, W3 = w3.alloc (.cells #[.int .u64 2, .int .i64 (log : Int)] 24) := ⟨_, rfl⟩
  have hbW : Below w3.heap.size w3 W3 := by rw [hW3]; exact (Below.refl _ w3).alloc (Nat.le_refl _) _
  have HC3 := Lib.hid (show C ≤ w3.heap.size by have := hb3.size; have := HC2.out; omega)
  have HA3 := Lib.hid (hA3.below hbW (Nat.le_refl _))
  have HB3 := Lib.hid ((HB2.out.trans hb3).trans (hbW.mono HC3.out))
  obtain ⟨z, hz⟩ : ∃ z, z = w3.heap.size := ⟨_, rfl⟩
  have HT3 := Lib.hid (show W3.heap[z]? = some (.cells #[.int .u64 2, .int .i64 (log : Int)] 24 (0, 0)) ∧ ¬ F3 z from ⟨by rw [hW3, hz]; exact heap_alloc_new w3 _, fun e => by have := (hA3.foot e).2; omega⟩)
  have HC4 := Lib.hid (show C ≤ W3.heap.size ∧ C ≤ z by have := hbW.size; have := HC3.out; omega)
  have HW3 := Lib.hid hW3
  have D1 := does_store (S := ⟨cells, 2, 0, [(1, List.replicate dn 0), (2, List.replicate tn 0)]⟩) (ws := List.replicate tn 0) 2 0 log (by omega) (by simp [Mm.get]) (by rw [List.length_replicate]; have := HR.out; omega) (by omega) C W3 p F3 HA3.out HC4.out.1
  have D1 := Lib.hid (show Calls Tryz.prog 61 #[.pointer (some ⟨p, 0, none⟩), .agg #[.int .i64 2, .int .u64 2, .int .i64 0, .int .u64 0, .int .u64 (log : Int)]] W3 (Turns (.int .u64 0) C p _ F3 W3) from D1)
  have d0 : W3.cell? ⟨z, 0, none⟩ = some (.int .u64 2) := by simp [World.cell?, HT3.out.1]
  have hu : IntKind.u64.wrap (log : Int) = (log : Int) := u64_wrap_small (by omega) (by omega)
  clear hA3 hb3 ht3 hbW K3 K4 HA2 HB2 hW3
  go_wp2_with fail
  rw [show w3.alloc (.cells #[.int .u64 2, .int .i64 (log : Int)] 24) = W3 from HW3.out.symm]
  rw [← hz]
  clear hz
  with_reducible refine D1.out.mono ?_
  rintro e w4 ⟨rfl, F4, hA4, ht4⟩
  have hA4 : Ax C w4 p ⟨cells, 2, 0, [(1, List.replicate dn 0), (2, (List.replicate tn 0).set 0 (log : Int))]⟩ F4 := hA4
  have HC5 := Lib.hid (show C ≤ w4.heap.size from Nat.le_trans HC4.out.1 ht4.size)
  have HT4 := Lib.hid (show w4.heap[z]? = some (.cells #[.int .u64 2, .int .i64 (log : Int)] 24 (0, 0)) ∧ ¬ F4 z from ⟨(ht4.block z (Array.getElem?_eq_some_iff.1 HT3.out.1).1 HT3.out.2).trans HT3.out.1, fun e => (ht4.foot z e).elim HT3.out.2 (fun e2 => by have := (Array.getElem?_eq_some_iff.1 HT3.out.1).1; omega)⟩)
  have HB4 := Lib.hid (HB3.out.trans (ht4.below (fun k hk => (HA3.out.foot hk).1) HC4.out.1))
  have D2 := does_store (S := ⟨cells, 2, 0, [(1, List.replicate dn 0), (2, (List.replicate tn 0).set 0 (log : Int))]⟩) (ws := List.replicate dn 0) 1 0 2 (by omega) (by simp [Mm.get]) (by rw [List.length_replicate]; have := HR.out; omega) (by omega) C w4 p F4 hA4 HC5.out
  have D2 := Lib.hid (show Calls Tryz.prog 61 #[.pointer (some ⟨p, 0, none⟩), .agg #[.int .i64 2, .int .u64 1, .int .i64 0, .int .u64 0, .int .u64 2]] w4 (Turns (.int .u64 0) C p _ F4 w4) from D2)
  have HA4 := Lib.hid hA4
  have d0 : w4.cell? ⟨z, 0, none⟩ = some (.int .u64 2) := by simp [World.cell?, HT4.out.1]
  clear hA4 ht4 D1 HA3 HT3 HB3 HC4 HC3 hu
  go_wp2_with fail
  with_reducible refine D2.out.mono ?_
  rintro e w5 ⟨rfl, F5, hA5, ht5⟩
  have hA5 : Ax C w5 p ⟨cells, 2, 0, [(1, (List.replicate dn 0).set 0 2), (2, (List.replicate tn 0).set 0 (log : Int))]⟩ F5 := hA5
  have HC6 := Lib.hid (show C ≤ w5.heap.size from Nat.le_trans HC5.out ht5.size)
  have HT5 := Lib.hid (show w5.heap[z]? = some (.cells #[.int .u64 2, .int .i64 (log : Int)] 24 (0, 0)) ∧ ¬ F5 z from ⟨(ht5.block z (Array.getElem?_eq_some_iff.1 HT4.out.1).1 HT4.out.2).trans HT4.out.1, fun e => (ht5.foot z e).elim HT4.out.2 (fun e2 => by have := (Array.getElem?_eq_some_iff.1 HT4.out.1).1; omega)⟩)
  have HB5 := Lib.hid (HB4.out.trans (ht5.below (fun k hk => (HA4.out.foot hk).1) HC5.out))
  have D3 := does_store (S := ⟨cells, 2, 0, [(1, (List.replicate dn 0).set 0 2), (2, (List.replicate tn 0).set 0 (log : Int))]⟩) (ws := (List.replicate dn 0).set 0 2) 1 1 16 (by omega) (by simp [Mm.get]) (by rw [List.length_set, List.length_replicate]; have := HR.out; omega) (by omega) C w5 p F5 hA5 HC6.out
  have D3 := Lib.hid (show Calls Tryz.prog 61 #[.pointer (some ⟨p, 0, none⟩), .agg #[.int .i64 2, .int .u64 1, .int .i64 1, .int .u64 0, .int .u64 16]] w5 (Turns (.int .u64 0) C p _ F5 w5) from D3)
  have HA5 := Lib.hid hA5
  have d0 : w5.cell? ⟨z, 0, none⟩ = some (.int .u64 2) := by simp [World.cell?, HT5.out.1]
  clear hA5 ht5 D2 HA4 HT4 HB4 HC5
  go_wp2_with fail
  with_reducible refine D3.out.mono ?_
  rintro e w6 ⟨rfl, F6, hA6, ht6⟩
  have hA6 : Ax C w6 p (Fm cells dn tn log) F6 := hA6
  have HT6 := Lib.hid (show w6.heap[z]? = some (.cells #[.int .u64 2, .int .i64 (log : Int)] 24 (0, 0)) from (ht6.block z (Array.getElem?_eq_some_iff.1 HT5.out.1).1 HT5.out.2).trans HT5.out.1)
  have hb6 := HB5.out.trans (ht6.below (fun k hk => (HA5.out.foot hk).1) HC6.out)
  have o6 : w6.heap[B]? = some (.cells #[.int .u64 0, .int .i64 0] 24 (0, 0)) := (hb6.block B (by have := HC.out; omega)).trans HO0.out
  have HB6 := Lib.hid (HB0.out.trans (hb6.mono (by have := HC.out; omega)))
  have HA6 := Lib.hid hA6
  have d0 : w6.cell? ⟨z, 0, none⟩ = some (.int .u64 2) := by simp [World.cell?, HT6.out]
  have d1 : w6.cell? ⟨z, 1, none⟩ = some (.int .i64 (log : Int)) := by simp [World.cell?, HT6.out]
  have b0 : w6.cell? ⟨B, 0, none⟩ = some (.int .u64 0) := by simp [World.cell?, o6]
  have b1 : w6.cell? ⟨B, 1, none⟩ = some (.int .i64 0) := by simp [World.cell?, o6]
  have f0 : w6.frozen? ⟨B, 0, none⟩ = false := by simp [World.frozen?, o6]
  have f1 : w6.frozen? ⟨B, 1, none⟩ = false := by simp [World.frozen?, o6]
  have hbz : (B == z) = false := by
    have := (Array.getElem?_eq_some_iff.1 HT6.out).1
    by_cases e : B = z
    · subst e
      have := o6.symm.trans HT6.out
      injection this with this
      injection this with this
      simp at this
    · simpa using e
  have hzb : (z == B) = false := by simp at hbz ⊢; exact fun e => hbz e.symm
  have HLT := Lib.hid (show B < w6.heap.size from (Array.getElem?_eq_some_iff.1 o6).1)
  clear hA6 ht6 hb6 D3 HA5 HT5 HB5 HC6
  have eB := HBB.out
  have HO6 := Lib.hid o6
  rw [eB] at b0 b1 f0 f1 hbz hzb
  clear eB o6
  have HE : Hid (∀ W, Below w.heap.size w W → (∀ k, F6 k → W.heap[k]? = w6.heap[k]?) → Fielded cells dn tn log w (.returned (.tuple #[.pointer (some ⟨p, 0, none⟩), .agg #[.int .u64 2, .int .i64 (log : Int)]])) W) := Lib.hid (fun W hb hk => ⟨p, F6, rfl, by rw [← HBB.out]; exact HC.out.2.1, by rw [← HBB.out]; exact (HA6.out.mono (by have := HC.out; omega)).keep hk, hb⟩)
  have HE2 : Hid (∀ v0 v1 : Value, Below w.heap.size w (((w6.setCell ⟨w.heap.size, 0, none⟩ v0).setCell ⟨w.heap.size, 1, none⟩ v1).drew) ∧ ∀ k, F6 k → (((w6.setCell ⟨w.heap.size, 0, none⟩ v0).setCell ⟨w.heap.size, 1, none⟩ v1).drew).heap[k]? = w6.heap[k]?) := Lib.hid (fun v0 v1 => by
    have hb := HB6.out
    rw [HBB.out] at hb
    refine ⟨((hb.setCell (p := ⟨w.heap.size, 0, none⟩) (Nat.le_refl _) _).setCell (p := ⟨w.heap.size, 1, none⟩) (Nat.le_refl _) _).drew, fun k hk => ?_⟩
    have hne : k ≠ w.heap.size := fun e => by have := (HA6.out.foot hk).1; have := HC.out; have := HBB.out; omega
    exact (Below.heap_setCell _ _ _ _ hne).trans (Below.heap_setCell _ _ _ _ hne))
  go_wp2
  go_region
  all_goals go_wp2
  all_goals refine bodyPost_ret (v := .tuple #[.pointer (some ⟨p, 0, none⟩), .agg #[.int .u64 2, .int .i64 (log : Int)]]) (by simp [results, Tryz.results14, go_sem, b0, b1]) rfl ?_
  all_goals exact HE.out _ (HE2.out _ _).1 (HE2.out _ _).2
/-- What Boxed comes to. -/
def Boxd (B p : Nat) (M : Mem) (l : List Nat) (F : Nat → Prop) (w : World) (e : Ending) (w' : World) : Prop := e = .returned (.int .u64 ((M.last + 1 : Nat) : Int)) ∧ ∃ F', Ax B w' p (Smx M (Kr.up l)) F' ∧ Tn F F' w w'
theorem bx_bd {k v : List UInt8} (hk : k.length ≤ 16) (hv : v.length ≤ 24) : 1 ≤ (Kr.bx k v).length ∧ (Kr.bx k v).length ≤ 6 := by
  rw [← Rd.sz_bx hk hv]; exact Rd.sz_bd _
set_option maxRecDepth 100000 in
set_option maxHeartbeats 2000000 in
theorem kboxed_any {B : Nat} {w : World} {p : Nat} {M : Mem} {F : Nat → Prop} (key val : ByteArray) (ha : Ax B w p M F) (hlow : 0 < B) (hB : B ≤ w.heap.size) (hk : key.data.toList.length ≤ 16) (hv : val.data.toList.length ≤ 24) (hn : (Kr.bx key.data.toList val.data.toList).length ≤ M.room - Mm.used M.L) (hl : M.last ≤ 1000000) :
    Calls Tryz.prog 15 #[.pointer (some ⟨p, 0, none⟩), .string key, .string val] w (Boxd B p M (Kr.bx key.data.toList val.data.toList) F w) := by
  have KN := Lib.hid (knew_any key val w (by rw [← Array.length_toList] at *; exact hk) (by exact hv))
  obtain ⟨l1, l2⟩ := bx_bd hk hv
  have HG := Lib.hid ha.good
  obtain ⟨l, hl'⟩ : ∃ l, l = Kr.bx key.data.toList val.data.toList := ⟨_, rfl⟩
  rw [← hl'] at KN hn l1 l2 ⊢
  have HA := Lib.hid ha
  have HN := Lib.hid (show l.length ≤ M.room - Mm.used M.L ∧ M.last ≤ 1000000 ∧ 1 ≤ l.length ∧ l.length ≤ 6 ∧ B ≤ w.heap.size from ⟨hn, hl, l1, l2, hB⟩)
  have HLW := Lib.hid hlow
  clear ha hlow hB hk hv hn hl l1 l2 hl'
  go_enter Tryz.func15, Tryz.ntmps15
  go_wp2_with fail
  with_reducible refine KN.out.mono ?_
  rintro e w1 ⟨q, g, c, rfl, hm, hb⟩
  have HM := Lib.hid hm
  have HB := Lib.hid hb
  have hm2 : Mst B w1 q l g c 0 0 := ⟨Nat.le_trans HN.out.2.2.2.2 hm.qB, Nat.le_trans HN.out.2.2.2.2 hm.gB, hm.ne, hm.own, hm.ltg, hm.wds⟩
  have KA := kalone2 (HA.out.below hb (Nat.le_refl _)) hm2 ⟨fun e => by have := (HA.out.foot e).2; have := hm.qB; omega, fun e => by have := (HA.out.foot e).2; have := hm.gB; omega⟩ HLW.out (Nat.le_trans HN.out.2.2.2.2 hb.size) HG.out HN.out.1 (by have := HN.out; omega) HN.out.2.2.1 HN.out.2.2.2.1 20 (by omega)
  have KA := Lib.hid KA
  clear hm hb hm2 KN
  go_wp2_with fail
  with_reducible refine KA.out.mono ?_
  rintro e w2 ⟨rfl, F', H', g', c', hA', hM', hf', ht'⟩
  have KR := kres_any hM'
  unfold kres at KR
  rw [if_neg (by
    have : Kr.more l.length (l.length + 1) (M.last + 1) = false := by
      rw [← more_cnt]
      exact decide_eq_false (by unfold cnt; rw [if_neg (by omega)]; omega)
    rw [this]; simp)] at KR
  have KR := Lib.hid KR
  have HA' := Lib.hid hA'
  have HT : Hid (Tn F F' w w2) := Lib.hid ⟨ht'.os.trans HB.out.os, ht'.tape.trans HB.out.tape, ht'.output.trans HB.out.output, Nat.le_trans HB.out.size ht'.size, fun k hk hF => (ht'.block k (Nat.lt_of_lt_of_le hk HB.out.size) (fun e => by
    rcases e with e | e | e
    · exact hF e
    · have := HM.out.qB; omega
    · have := HM.out.gB; omega)).trans (HB.out.block k hk), fun k hk => by
    rcases ht'.foot k (.inl hk) with e | e
    · rcases e with e | e | e
      · exact .inl e
      · exact .inr (by have := HM.out.qB; omega)
      · exact .inr (by have := HM.out.gB; omega)
    · exact .inr (Nat.le_trans HB.out.size e)⟩
  clear hA' hM' hf' ht' KA
  go_wp2_with fail
  with_reducible refine KR.out.mono ?_
  rintro e w3 ⟨rfl, rfl⟩
  go_wp2
  go_ret
  exact ⟨rfl, F', HA'.out, HT.out⟩
end Go.Proofs.YtknefjigdlbacaaGreatDoor
set_option linter.unusedSimpArgs false
set_option linter.unusedVariables false
namespace Go.Proofs.YtknefjigdlbacaaGreatDoor
open Mm (Mem Blk)
open Ac (A)
/-- One act done, and taken. -/
def adv (c : Sk.C) (x : Sk.S × Mem) : Sk.S × Mem := (Sk.step c x.1 (Mm.ans x.2 (Sk.act c x.1)), Mm.aft x.2 (Sk.act c x.1))
def cr (c : Sk.C) (x : Sk.S × Mem) : Nat → Sk.S × Mem
  | 0 => x
  | k + 1 => adv c (cr c x k)
theorem cr_succ (c : Sk.C) (x : Sk.S × Mem) : ∀ k, cr c x (k + 1) = cr c (adv c x) k
  | 0 => rfl
  | k + 1 => by
    show adv c (cr c x (k + 1)) = adv c (cr c (adv c x) k)
    rw [cr_succ c x k]
end Go.Proofs.YtknefjigdlbacaaGreatDoor
