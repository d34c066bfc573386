/-
  What the document's Read finds is what is read. Plain mathematics. By an AI agent.
-/
import Derived.Test.YthgabbkpjffdnaaDoorActRefRead
set_option linter.unusedSimpArgs false
set_option linter.unusedVariables false
namespace Go.Proofs.YthgabbkpjffdnaaDoor
open Ac (A)
/-- The numbers of texts, as numbers. -/
def pn (ps : List (List UInt8)) : List Nat := ps.map fun p => Dt.Dg.wordV p 20
theorem pv_getD (ps : List (List UInt8)) (i : Nat) : (pv ps).getD i 0 = ((pn ps).getD i 0 : Nat) := by
  simp only [List.getD_eq_getElem?_getD, pv, pn, List.getElem?_map]
  cases ps[i]? <;> rfl
theorem pn_lt (ps : List (List UInt8)) (i : Nat) : (pn ps).getD i 0 < 18446744073709551616 := by
  simp only [List.getD_eq_getElem?_getD, pn, List.getElem?_map]
  cases ps[i]? with
  | none => decide
  | some p => exact word_bounds p
def clamp (a : Nat) : Nat := if 999999999999999999 < a then 0 else a
/-- The act that is tried, by its kind. -/
def cand (k a b c d : Nat) : A :=
  if k = 0 then ⟨0, 0, 0, 0, 0⟩ else if k = 1 then ⟨1, a, (clamp b : Nat), 0, 0⟩ else if k = 2 then ⟨2, a, (clamp b : Nat), 0, c⟩ else if k = 3 then ⟨3, a, (clamp b : Nat), c, d⟩ else if k = 4 then ⟨4, a, (clamp b : Nat), 0, c⟩ else if k = 5 then ⟨5, 0, (clamp a : Nat), 0, 0⟩ else ⟨6, a, 0, 0, 0⟩
/-- Is it the act whose text it is? -/
def okB (l : List UInt8) (x : A) : Bool := Ac.right x && (tx x == l)
theorem clamp_le (a : Nat) : clamp a ≤ 999999999999999999 := by unfold clamp; split <;> omega
theorem cand_fits (k : Nat) {a b c d : Nat} (ha : a < 18446744073709551616) (hb : b < 18446744073709551616) (hc : c < 18446744073709551616) (hd : d < 18446744073709551616) : Fits (cand k a b c d) ∧ (cand k a b c d).c ≤ 999999999999999999 := by
  have h1 := clamp_le a
  have h2 := clamp_le b
  unfold cand
  split; · exact ⟨⟨by simp only; omega, by simp only; omega, by simp only; omega, by simp only; omega, by simp only; omega⟩, by simp only; omega⟩
  split; · exact ⟨⟨by simp only; omega, by simp only; omega, by simp only; omega, by simp only; omega, by simp only; omega⟩, by simp only; omega⟩
  split; · exact ⟨⟨by simp only; omega, by simp only; omega, by simp only; omega, by simp only; omega, by simp only; omega⟩, by simp only; omega⟩
  split; · exact ⟨⟨by simp only; omega, by simp only; omega, by simp only; omega, by simp only; omega, by simp only; omega⟩, by simp only; omega⟩
  split; · exact ⟨⟨by simp only; omega, by simp only; omega, by simp only; omega, by simp only; omega, by simp only; omega⟩, by simp only; omega⟩
  split; · exact ⟨⟨by simp only; omega, by simp only; omega, by simp only; omega, by simp only; omega, by simp only; omega⟩, by simp only; omega⟩
  exact ⟨⟨by simp only; omega, by simp only; omega, by simp only; omega, by simp only; omega, by simp only; omega⟩, by simp only; omega⟩
/-- The act that is found is what is read. -/
theorem rd_ok {l : List UInt8} {x : A} (h : okB l x = true) (hf : Fits x) (hc : x.c ≤ 999999999999999999) : rd l = some x := by
  unfold okB at h
  simp only [Bool.and_eq_true, beq_iff_eq] at h
  have e : Ac.text x = l := by have := h.2; unfold tx at this; rw [h.1, if_pos rfl] at this; exact this
  rw [← e]
  exact rd_text h.1 hf hc
/-- The parts behind a blank. -/
def pt (l : List UInt8) : List (List UInt8) := match l with | [] => [] | _ :: r => partsOf r
theorem parts_bl {a l : List UInt8} (ha : (32 : UInt8) ∉ a) (h : Bl l) : partsOf (a ++ l) = a :: pt l := by
  rcases h with rfl | ⟨r, rfl⟩
  · rw [List.append_nil, partsOf_end a ha]; rfl
  · rw [partsOf_snoc_blank a a ha r]; rfl
theorem pt_part (f : Bool) {d l : List UInt8} (hd : (32 : UInt8) ∉ d) (h : Bl l) : pt (Ac.part f d ++ l) = (if f then [d] else []) ++ pt l := by
  cases f with
  | false => simp [Ac.part]
  | true =>
    have : pt (Ac.part true d ++ l) = partsOf (d ++ l) := by simp [Ac.part, pt]
    rw [this, parts_bl hd h]; rfl
/-- The parts of an act's text. -/
theorem parts_text (k : Int) (b c o n : Nat) : partsOf (Ac.text ⟨k, b, (c : Int), o, n⟩) = Ac.wordOf k :: ((if Ac.fb k then [Lib.decDigits b] else []) ++ ((if Ac.fc k then [Lib.decDigits c] else []) ++ ((if Ac.fo k then [Lib.decDigits o] else []) ++ (if Ac.fn k then [Lib.decDigits n] else [])))) := by
  have L4 := Bl.part (Ac.fn k) (Lib.decDigits n) Bl.nil
  have L3 := Bl.part (Ac.fo k) (Lib.decDigits o) L4
  have L2 := Bl.part (Ac.fc k) (Lib.decDigits c) L3
  have L1 := Bl.part (Ac.fb k) (Lib.decDigits b) L2
  have et : Ac.text ⟨k, b, (c : Int), o, n⟩ = Ac.wordOf k ++ (Ac.part (Ac.fb k) (Lib.decDigits b) ++ (Ac.part (Ac.fc k) (Lib.decDigits c) ++ (Ac.part (Ac.fo k) (Lib.decDigits o) ++ (Ac.part (Ac.fn k) (Lib.decDigits n) ++ [])))) := by
    simp [Ac.text]
  rw [et, parts_bl (word_blank k) L1, pt_part _ (dec_blank b) L2, pt_part _ (dec_blank c) L3, pt_part _ (dec_blank o) L4, pt_part _ (dec_blank n) Bl.nil]
  simp [pt]
theorem wordE_dec {u : Nat} (h : u < 18446744073709551616) : Dt.Dg.wordE (Lib.decDigits u) 20 = 0 ∧ Dt.Dg.wordV (Lib.decDigits u) 20 = u := by
  have := word_dec h
  simpa [nk, nv] using this
theorem rd_whole {l : List UInt8} {x : A} (h : rd l = some x) : ∃ (k : Int) (b c o n : Nat), x = ⟨k, b, (c : Int), o, n⟩ ∧ l = Ac.text x ∧ Ac.right x = true ∧ c ≤ 999999999999999999 ∧ b < 18446744073709551616 ∧ o < 18446744073709551616 ∧ n < 18446744073709551616 := by
  obtain ⟨hr, ht, hc, hf⟩ := rd_some h
  obtain ⟨hk, h0, -⟩ := right_parts hr
  obtain ⟨k, b, c, o, n⟩ := x
  obtain ⟨c, rfl⟩ := Int.eq_ofNat_of_zero_le h0
  exact ⟨k, b, c, o, n, rfl, ht.symm, hr, by simp only at hc; omega, hf.b, hf.o, hf.n⟩
/-- A part that is no number. -/
theorem rd_bad {l : List UInt8} {p : List UInt8} (hp : p ∈ (partsOf l).drop 1) (he : Dt.Dg.wordE p 20 ≠ 0) : rd l = none := by
  cases h : rd l with
  | none => rfl
  | some x =>
    exfalso
    obtain ⟨k, b, c, o, n, rfl, rfl, hr, hc, hb, ho, hn⟩ := rd_whole h
    rw [parts_text] at hp
    simp only [List.drop_succ_cons, List.drop_zero, List.mem_append] at hp
    have key : ∀ {f : Bool} {u : Nat}, u < 18446744073709551616 → p ∈ (if f then [Lib.decDigits u] else []) → False := fun {f u} hu hm => by
      cases f with
      | false => simp at hm
      | true => simp at hm; subst hm; exact he (wordE_dec hu).1
    rcases hp with hp | hp | hp | hp
    · exact key hb hp
    · exact key (by omega) hp
    · exact key ho hp
    · exact key hn hp
/-- None is found: none is read. -/
theorem rd_none {l : List UInt8} (h : ∀ j, j < 7 → okB l (cand j ((pn ((partsOf l).drop 1)).getD 0 0) ((pn ((partsOf l).drop 1)).getD 1 0) ((pn ((partsOf l).drop 1)).getD 2 0) ((pn ((partsOf l).drop 1)).getD 3 0)) = false) : rd l = none := by
  cases e : rd l with
  | none => rfl
  | some x =>
    exfalso
    obtain ⟨k, b, c, o, n, rfl, hl, hr, hc, hb, ho, hn⟩ := rd_whole e
    obtain ⟨hk, h0, h5, zb, zc, zo, zn⟩ := right_parts hr
    have vb := (wordE_dec hb).2
    have vc := (wordE_dec (u := c) (by omega)).2
    have vo := (wordE_dec ho).2
    have vn := (wordE_dec hn).2
    have hcl : clamp c = c := by unfold clamp; rw [if_neg (by omega)]
    have hok : okB l ⟨k, b, (c : Int), o, n⟩ = true := by
      unfold okB tx
      rw [hr, if_pos rfl, ← hl]
      simp
    have hp : (partsOf l).drop 1 = ((if Ac.fb k then [Lib.decDigits b] else []) ++ ((if Ac.fc k then [Lib.decDigits c] else []) ++ ((if Ac.fo k then [Lib.decDigits o] else []) ++ (if Ac.fn k then [Lib.decDigits n] else [])))) := by
      rw [hl, parts_text]; rfl
    rw [hp] at h
    simp only at hk zb zc zo zn
    rcases Ac.kinds hk with rfl | rfl | rfl | rfl | rfl | rfl | rfl
    · have e1 := zb rfl
      have e2 := zc rfl
      have e3 := zo rfl
      have e4 := zn rfl
      obtain rfl : c = 0 := by omega
      subst e1 e3 e4
      exact absurd hok (by rw [show (⟨0, 0, ((0 : Nat) : Int), 0, 0⟩ : A) = cand 0 _ _ _ _ from rfl, h 0 (by omega)]; simp)
    · have e3 := zo rfl
      have e4 := zn rfl
      subst e3 e4
      have := h 1 (by omega)
      simp [Ac.fb, Ac.fc, Ac.fo, Ac.fn, pn, vb, vc, cand, hcl] at this
      rw [this] at hok; cases hok
    · have e3 := zo rfl
      subst e3
      have := h 2 (by omega)
      simp [Ac.fb, Ac.fc, Ac.fo, Ac.fn, pn, vb, vc, vn, cand, hcl] at this
      rw [this] at hok; cases hok
    · have := h 3 (by omega)
      simp [Ac.fb, Ac.fc, Ac.fo, Ac.fn, pn, vb, vc, vo, vn, cand, hcl] at this
      rw [this] at hok; cases hok
    · have e3 := zo rfl
      subst e3
      have := h 4 (by omega)
      simp [Ac.fb, Ac.fc, Ac.fo, Ac.fn, pn, vb, vc, vn, cand, hcl] at this
      rw [this] at hok; cases hok
    · have e1 := zb rfl
      have e3 := zo rfl
      have e4 := zn rfl
      subst e1 e3 e4
      have := h 5 (by omega)
      simp [Ac.fb, Ac.fc, Ac.fo, Ac.fn, pn, vb, vc, cand, hcl] at this
      rw [this] at hok; cases hok
    · have e2 := zc rfl
      have e3 := zo rfl
      have e4 := zn rfl
      obtain rfl : c = 0 := by omega
      subst e3 e4
      have := h 6 (by omega)
      simp [Ac.fb, Ac.fc, Ac.fo, Ac.fn, pn, vb, vc, cand, hcl] at this
      simp at hok
      rw [this] at hok; cases hok
end Go.Proofs.YthgabbkpjffdnaaDoor
