/-
  Many routines on one arena; the walks of rest. By an AI agent.
-/
import Derived.Test.YthldjdkjgiebaaaDriveLp
set_option linter.unusedSimpArgs false
set_option linter.unusedVariables false
namespace Go.Proofs.Ythldjdkjgiebaaa
open Go.RowKit Go.Shelf Go.Maps
open Mm (Mem Blk)
open Ac (A)
def upd {β : Type} (f : Nat → β) (i : Nat) (v : β) (j : Nat) : β := if j = i then v else f j
theorem upd_same {β : Type} (f : Nat → β) (i : Nat) (v : β) : upd f i v i = v := by simp [upd]
theorem upd_other {β : Type} (f : Nat → β) {i j : Nat} (v : β) (h : j ≠ i) : upd f i v j = f j := by simp [upd, h]
/-- All blocks of an arena and of n routines. -/
def Tot (n : Nat) (F : Nat → Prop) (H : Nat → Nat → Prop) (k : Nat) : Prop := F k ∨ ∃ i, i < n ∧ H i k
/-- An arena and n routines, apart from one another. -/
structure Ms (B : Nat) (w : World) (p : Nat) (S : Mem) (n : Nat) (q : Nat → Nat) (a : Nat → Option Addr) (N c : Nat → Nat) (gs : Nat → List Int) (F : Nat → Prop) (H : Nat → Nat → Prop) : Prop where
  ar : Ax B w p S F
  ro : ∀ i, i < n → Ro B w (q i) (a i) (N i) (c i) (gs i) (H i)
  d0 : ∀ i, i < n → ∀ k, H i k → ¬ F k
  d1 : ∀ i j, i < n → j < n → i ≠ j → ∀ k, H i k → ¬ H j k
section
variable {B : Nat} {w W W' : World} {p n : Nat} {S S' : Mem} {q : Nat → Nat} {a : Nat → Option Addr} {N c : Nat → Nat} {gs : Nat → List Int} {F F' : Nat → Prop} {H : Nat → Nat → Prop} {H' : Nat → Prop}
theorem Ms.du (h : Ms B w p S n q a N c gs F H) {i : Nat} (hi : i < n) : Du B w p S (q i) (a i) (N i) (c i) (gs i) F (H i) := ⟨h.ar, h.ro i hi, h.d0 i hi⟩
theorem Ms.foot (h : Ms B w p S n q a N c gs F H) {k : Nat} (hk : Tot n F H k) : B ≤ k ∧ k < w.heap.size := by
  rcases hk with hk | ⟨i, hi, hk⟩
  · exact h.ar.foot hk
  · exact (h.ro i hi).foot hk
theorem Ms.noalien (h : Ms B w p S n q a N c gs F H) {k : Nat} (hk : Tot n F H k) {o : Obj} (ho : w.heap[k]? = some o) : alien o = false := by
  rcases hk with hk | ⟨i, hi, hk⟩
  · exact h.ar.noalien hk ho
  · exact (h.ro i hi).noalien hk ho
theorem Ms.keep (h : Ms B w p S n q a N c gs F H) (hk : ∀ k, Tot n F H k → W'.heap[k]? = w.heap[k]?) : Ms B W' p S n q a N c gs F H :=
  ⟨h.ar.keep fun k e => hk k (.inl e), fun i hi => (h.ro i hi).keep fun k e => hk k (.inr ⟨i, hi, e⟩), h.d0, h.d1⟩
theorem Ms.below (h : Ms B w p S n q a N c gs F H) (hb : Below w.heap.size w W') : Ms B W' p S n q a N c gs F H := h.keep fun k hk => hb.block k (h.foot hk).2
/-- One routine goes on. -/
theorem Ms.step (h : Ms B w p S n q a N c gs F H) {i : Nat} (hi : i < n) {v : Int} (hd : Du B W p S' (q i) (a i) (N i) (c i) (gs i ++ [v]) F' H') (ht : Tn (Or2 F (H i)) (Or2 F' H') w W) :
    Ms B W p S' n q a N c (upd gs i (gs i ++ [v])) F' (upd H i H') ∧ Tn (Tot n F H) (Tot n F' (upd H i H')) w W := by
  have hoth : ∀ j, j < n → j ≠ i → ∀ k, H j k → ¬ Or2 F (H i) k := fun j hj hne k hk e => e.elim (h.d0 j hj k hk) (h.d1 j i hj hi hne k hk)
  have hro : ∀ j, j < n → j ≠ i → Ro B W (q j) (a j) (N j) (c j) (gs j) (H j) ∧ ∀ k, H j k → ¬ Or2 F' H' k := fun j hj hne => ht.ro (h.ro j hj) (hoth j hj hne)
  refine ⟨⟨hd.ar, fun j hj => ?_, fun j hj k hk => ?_, fun j1 j2 h1 h2 hne k hk => ?_⟩, ⟨ht.os, ht.tape, ht.output, ht.size, fun k hk hF => ht.block k hk (fun e => hF (e.elim .inl (fun e => .inr ⟨i, hi, e⟩))), fun k hk => ?_⟩⟩
  · by_cases e : j = i
    · subst e; rw [upd_same, upd_same]; exact hd.ro
    · rw [upd_other _ _ e, upd_other _ _ e]; exact (hro j hj e).1
  · by_cases e : j = i
    · subst e; rw [upd_same] at hk; exact hd.apart k hk
    · rw [upd_other _ _ e] at hk; exact fun hf => (hro j hj e).2 k hk (.inl hf)
  · by_cases e1 : j1 = i
    · subst e1
      rw [upd_same] at hk
      rw [upd_other _ _ (Ne.symm hne)]
      exact fun hh => (hro j2 h2 (Ne.symm hne)).2 k hh (.inr hk)
    · rw [upd_other _ _ e1] at hk
      by_cases e2 : j2 = i
      · subst e2; rw [upd_same]; exact fun hh => (hro j1 h1 e1).2 k hk (.inr hh)
      · rw [upd_other _ _ e2]; exact h.d1 j1 j2 h1 h2 hne k hk
  · rcases hk with hk | ⟨j, hj, hk⟩
    · exact (ht.foot k (.inl hk)).imp (fun e => e.elim .inl (fun e => .inr ⟨i, hi, e⟩)) id
    · by_cases e : j = i
      · subst e; rw [upd_same] at hk; exact (ht.foot k (.inr hk)).imp (fun e => e.elim .inl (fun e => .inr ⟨j, hj, e⟩)) id
      · rw [upd_other _ _ e] at hk; exact .inl (.inr ⟨j, hj, hk⟩)
end
/-- A cell that a change of F leaves alone. -/
def Fix (w : World) (F : Nat → Prop) (a : Option Addr) (i : Nat) (v : Value) : Prop := ∃ b off, a = some ⟨b, off, none⟩ ∧ b < w.heap.size ∧ ¬ F b ∧ w.cell? ⟨b, off + i, none⟩ = some v
theorem Fix.tn {w W : World} {F F' : Nat → Prop} {a : Option Addr} {i : Nat} {v : Value} (h : Fix w F a i v) (ht : Tn F F' w W) : ∃ b off, a = some ⟨b, off, none⟩ ∧ W.cell? ⟨b, off + i, none⟩ = some v := by
  obtain ⟨b, off, rfl, hb, hF, hc⟩ := h
  exact ⟨b, off, rfl, (cell_keep (ht.block b hb hF) _).trans hc⟩
theorem tmod_pos {p n : Int} (hn : 0 < n) (h : 0 ≤ p.tmod n) : p.tmod n = p % n := by
  have h1 := Int.tmod_add_mul_tdiv p n
  have h2 := Int.emod_add_mul_ediv p n
  have h3 := Int.emod_nonneg p (by omega : n ≠ 0)
  have h4 := Int.emod_lt_of_pos p hn
  have h5 : p.tmod n < n := Int.tmod_lt_of_pos p hn
  have h6 : p % n = (p.tmod n + n * p.tdiv n) % n := by rw [h1]
  rw [Int.add_mul_emod_self_left, Int.emod_eq_of_lt h h5] at h6
  exact h6.symm
theorem tmod_neg {p n : Int} (hn : 0 < n) (h : p.tmod n < 0) : p.tmod n + n = p % n := by
  have h1 := Int.tmod_add_mul_tdiv p n
  have h7 : -n < p.tmod n := by
    have := Int.lt_tmod_of_pos p hn
    omega
  have h6 : p % n = (p.tmod n + n * p.tdiv n) % n := by rw [h1]
  rw [Int.add_mul_emod_self_left] at h6
  have h8 : (p.tmod n + n) % n = p.tmod n % n := Int.add_emod_right _ _
  rw [h6, ← h8, Int.emod_eq_of_lt (by omega) (by omega)]
set_option maxRecDepth 100000 in
set_option maxHeartbeats 1000000 in
theorem rest_any (p : Int) (n i : Nat) (hn : 1 ≤ n) (hn2 : n ≤ 1000) (hi : p % (n : Int) = (i : Int)) (w : World) : Calls Try.prog 23 #[.int .i64 p, .int .i64 (n : Int)] w (Same (.int .i64 (i : Int)) w) := by
  have hlt : p.tmod n < n := Int.tmod_lt_of_pos p (by omega)
  have hgt : -(n : Int) < p.tmod n := by have := Int.lt_tmod_of_pos p (by omega : (0 : Int) < n); omega
  have hn0 : (n : Int) ≠ 0 := by omega
  have h1 := fun h => (tmod_pos (by omega : (0 : Int) < n) h).trans hi
  have h2 := fun h => (tmod_neg (by omega : (0 : Int) < n) h).trans hi
  clear hi
  generalize hr : p.tmod (n : Int) = r at *
  have hw : wrap64 r = r := by unfold wrap64; omega
  have H1 := Lib.hid h1; clear h1
  have H2 := Lib.hid h2; clear h2
  by_cases h : r < 0
  · have e := H2.out h
    have E := Lib.hid e; clear e
    go_enter Try.func23, Try.ntmps23
    go_wp2
    go_ret
    exact ⟨by rw [← E.out]; rfl, rfl⟩
  · have e := H1.out (by omega)
    have E := Lib.hid e; clear e
    go_enter Try.func23, Try.ntmps23
    go_wp2
    go_ret
    exact ⟨by rw [← E.out]; rfl, rfl⟩
set_option maxRecDepth 100000 in
set_option maxHeartbeats 1000000 in
theorem rrest_any (p : Int) (n i : Nat) (hn : 1 ≤ n) (hn2 : n ≤ 1000) (hi : p % (n : Int) = (i : Int)) (w : World) : Calls Try.prog 21 #[.int .i64 p, .int .i64 (n : Int)] w (Same (.int .i64 (i : Int)) w) := by
  have hlt : p.tmod n < n := Int.tmod_lt_of_pos p (by omega)
  have hgt : -(n : Int) < p.tmod n := by have := Int.lt_tmod_of_pos p (by omega : (0 : Int) < n); omega
  have hn0 : (n : Int) ≠ 0 := by omega
  have h1 := fun h => (tmod_pos (by omega : (0 : Int) < n) h).trans hi
  have h2 := fun h => (tmod_neg (by omega : (0 : Int) < n) h).trans hi
  clear hi
  generalize hr : p.tmod (n : Int) = r at *
  have hw : wrap64 r = r := by unfold wrap64; omega
  have H1 := Lib.hid h1; clear h1
  have H2 := Lib.hid h2; clear h2
  by_cases h : r < 0
  · have e := H2.out h
    have E := Lib.hid e; clear e
    go_enter Try.func21, Try.ntmps21
    go_wp2
    go_ret
    exact ⟨by rw [← E.out]; rfl, rfl⟩
  · have e := H1.out (by omega)
    have E := Lib.hid e; clear e
    go_enter Try.func21, Try.ntmps21
    go_wp2
    go_ret
    exact ⟨by rw [← E.out]; rfl, rfl⟩
end Go.Proofs.Ythldjdkjgiebaaa
