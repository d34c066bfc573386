/-
  Several texts in one: What a text is read as: plain mathematics over the cut and the numbers; and that it is read back; A text is read back, and what is read is written as it stood; Read, at every text. (gen_readany.py); The walk of awake; All words of a memory, and in how many places two lists differ. Plain mathematics; The walk of words: all words of an arena; rows of words, compared; How the laws' arguments are opened: an act, a slice of acts; From the row's list of tables to the tables that the walks read; a start at which the listed tables lie as their own text lays them. By an AI agent.
-/
import Derived.Test.YthgabbkpjffdnaaDoorActNumber
import Derived.Test.YthgabbkpjffdnaaDoorActWord
import Derived.Test.YthgabbkpjffdnaaDoorActTextAny
import Derived.Test.YthgabbkpjffdnaaDoorActRead0
import Derived.Test.YthgabbkpjffdnaaDoorActRead1
import Derived.Test.YthgabbkpjffdnaaDoorActRead2
import Derived.Test.YthgabbkpjffdnaaDoorActRead3
import Derived.Test.YthgabbkpjffdnaaDoorActWrites
import Derived.Test.YthgabbkpjffdnaaDoorActBoth
import Derived.Test.YthgabbkpjffdnaaDoorArenaNil
import Derived.Test.YthgabbkpjffdnaaDoorArenaColl
import Derived.Deep.SlicePairs
import Derived.Lib.SmallJoins
import Derived.OpenShut
import Derived.Test.YthgabbkpjffdnaaDoorCards
import Derived.Test.YthgabbkpjffdnaaDoorTie
import Derived.Test.YthgabbkpjffdnaaDoorActNames
import Derived.Test.YthgabbkpjffdnaaDoorDigitText
import Derived.WalkKit
import Derived.ProofKit
import Derived.Deep.DeepHandedRow
import Derived.Lib.LaidTab
import Derived.LaidSub
set_option linter.unusedSimpArgs false
set_option linter.unusedVariables false
namespace Go.Proofs.YthgabbkpjffdnaaDoor
open Ac (A)
/-- The kind of a name. -/
def kindL (l : List UInt8) : Option Int :=
  if l = Ac.wordOf 0 then some 0 else if l = Ac.wordOf 1 then some 1 else if l = Ac.wordOf 2 then some 2 else if l = Ac.wordOf 3 then some 3 else if l = Ac.wordOf 4 then some 4 else if l = Ac.wordOf 5 then some 5 else if l = Ac.wordOf 6 then some 6 else none
/-- One field. -/
def fld (f cell : Bool) (st : List UInt8 × Bool) : Option (Nat × List UInt8 × Bool) :=
  if f then (if nk cell (cutS st.1).1 then some (nv cell (cutS st.1).1, (cutS st.1).2.1, (cutS st.1).2.2) else none) else some (0, st.1, st.2)
/-- What is read. -/
def rd (s : List UInt8) : Option A :=
  (kindL (cutS s).1).bind fun k => (fld (Ac.fb k) false ((cutS s).2.1, (cutS s).2.2)).bind fun b => (fld (Ac.fc k) true b.2).bind fun c => (fld (Ac.fo k) false c.2).bind fun o => (fld (Ac.fn k) false o.2).bind fun n =>
    if n.2.2 then none else if Ac.right ⟨k, b.1, (c.1 : Int), o.1, n.1⟩ then some ⟨k, b.1, (c.1 : Int), o.1, n.1⟩ else none
theorem kindL_word {k : Int} (h : Ac.known k = true) : kindL (Ac.wordOf k) = some k := by
  rcases Ac.kinds h with rfl | rfl | rfl | rfl | rfl | rfl | rfl <;> decide
theorem kindL_some {l : List UInt8} {k : Int} (h : kindL l = some k) : l = Ac.wordOf k ∧ Ac.known k = true := by
  unfold kindL at h
  split at h; · cases h; exact ⟨by assumption, by decide⟩
  split at h; · cases h; exact ⟨by assumption, by decide⟩
  split at h; · cases h; exact ⟨by assumption, by decide⟩
  split at h; · cases h; exact ⟨by assumption, by decide⟩
  split at h; · cases h; exact ⟨by assumption, by decide⟩
  split at h; · cases h; exact ⟨by assumption, by decide⟩
  split at h; · cases h; exact ⟨by assumption, by decide⟩
  cases h
theorem word_blank (k : Int) : (32 : UInt8) ∉ Ac.wordOf k := by
  unfold Ac.wordOf
  split; · decide
  split; · decide
  split; · decide
  split; · decide
  split; · decide
  split; · decide
  decide
theorem cutS_app : ∀ {a : List UInt8}, (32 : UInt8) ∉ a → ∀ r, cutS (a ++ 32 :: r) = (a, r, true)
  | [], _, r => by simp [cutS]
  | x :: a, h, r => by
    have hx : ¬ x = 32 := fun e => h (by simp [e])
    have ha : (32 : UInt8) ∉ a := fun e => h (by simp [e])
    show cutS (x :: (a ++ 32 :: r)) = _
    unfold cutS
    rw [if_neg hx, cutS_app ha r]
theorem cutS_end : ∀ {a : List UInt8}, (32 : UInt8) ∉ a → cutS a = (a, [], false)
  | [], _ => rfl
  | x :: a, h => by
    have hx : ¬ x = 32 := fun e => h (by simp [e])
    have ha : (32 : UInt8) ∉ a := fun e => h (by simp [e])
    unfold cutS
    rw [if_neg hx, cutS_end ha]
/-- A cut text, put together again. -/
theorem cutS_back : ∀ (l : List UInt8), (32 : UInt8) ∉ (cutS l).1 ∧ l = (if (cutS l).2.2 then (cutS l).1 ++ 32 :: (cutS l).2.1 else (cutS l).1) ∧ ((cutS l).2.2 = false → (cutS l).2.1 = [])
  | [] => by simp [cutS]
  | x :: l => by
    obtain ⟨h1, h2, h3⟩ := cutS_back l
    unfold cutS
    by_cases hx : x = 32
    · simp [hx]
    · rw [if_neg hx]
      refine ⟨?_, ?_, h3⟩
      · simp only [List.mem_cons, not_or]; exact ⟨fun e => hx e.symm, h1⟩
      · simp only
        cases hm : (cutS l).2.2 with
        | true => rw [hm] at h2; simp only [if_true] at h2 ⊢; rw [List.cons_append, ← h2]
        | false => rw [hm] at h2; simp only [Bool.false_eq_true, if_false] at h2 ⊢; rw [← h2]
theorem dig_blank {l : List UInt8} (h : l.all Dt.Dg.isDig = true) : (32 : UInt8) ∉ l := fun e => by
  have := List.all_eq_true.1 h 32 e
  exact absurd this (by decide)
theorem dec_blank (u : Nat) : (32 : UInt8) ∉ Lib.decDigits u := dig_blank (Dt.Dg.dec_all u)
end Go.Proofs.YthgabbkpjffdnaaDoor
set_option linter.unusedSimpArgs false
set_option linter.unusedVariables false
namespace Go.Proofs.YthgabbkpjffdnaaDoor
open Ac (A)
open Dt (Dg.val)
theorem ofNat_toNat48 {c : UInt8} (h : Dt.Dg.isDig c = true) : UInt8.ofNat (48 + (c.toNat - 48)) = c := by
  have := (Dt.Dg.isDig_iff c).1 h
  rw [show 48 + (c.toNat - 48) = c.toNat by omega]
  exact UInt8.ofNat_toNat
/-- Digits of the shortest form are the digits of their number. -/
theorem dec_of_wf : ∀ (n : Nat) (l : List UInt8), l.length = n → Dt.Dg.wfB l = true → Lib.decDigits (Dt.Dg.val l) = l
  | 0, l, hn, h => by rw [Dt.Dg.wf_none hn] at h; cases h
  | 1, l, hn, h => by
    obtain ⟨c, rfl⟩ := List.length_eq_one_iff.1 hn
    have hd : Dt.Dg.isDig c = true := by
      have := Dt.Dg.wf_allOf h; simpa using this
    have hv : Dt.Dg.val [c] = c.toNat - 48 := by simp [Dt.Dg.val]
    have := (Dt.Dg.isDig_iff c).1 hd
    rw [hv]
    unfold Lib.decDigits
    rw [dif_pos (by omega), ofNat_toNat48 hd]
  | n + 2, l, hn, h => by
    have hall := Dt.Dg.wf_allOf h
    have hne : l ≠ [] := fun e => by subst e; simp at hn
    obtain ⟨i, c, rfl⟩ : ∃ i c, l = i ++ [c] := ⟨l.dropLast, l.getLast hne, (List.dropLast_concat_getLast hne).symm⟩
    have hi : i.length = n + 1 := by simpa using hn
    rw [List.all_append, Bool.and_eq_true] at hall
    have hd : Dt.Dg.isDig c = true := by simpa using hall.2
    have hc := (Dt.Dg.isDig_iff c).1 hd
    obtain ⟨a, r, rfl⟩ : ∃ a r, i = a :: r := by
      cases i with
      | nil => simp at hi
      | cons a r => exact ⟨a, r, rfl⟩
    have ha48 : a ≠ 48 := by
      unfold Dt.Dg.wfB at h
      simp only [Bool.and_eq_true, Bool.or_eq_true, beq_iff_eq, bne_iff_ne] at h
      rcases h.2 with h | h
      · simp at h
      · simpa using h.2
    have hwi : Dt.Dg.wfB (a :: r) = true := Dt.Dg.wf_mk hall.1 (.inr ⟨by simp, by simpa using ha48⟩)
    have ha := (Dt.Dg.isDig_iff a).1 (by simpa using (List.all_eq_true.1 hall.1 a (by simp)))
    have ha1 : 49 ≤ a.toNat := by
      rcases Nat.lt_or_ge 48 a.toNat with h' | h'
      · omega
      · exact absurd (UInt8.toNat_inj.1 (show a.toNat = (48 : UInt8).toNat by have : (48 : UInt8).toNat = 48 := rfl; omega)) ha48
    have hpos : 1 ≤ Dt.Dg.val (a :: r) := by
      rw [Dt.Dg.val_cons]
      have h10 : 1 ≤ 10 ^ r.length := Nat.one_le_pow _ _ (by omega)
      have : 1 * 1 ≤ (a.toNat - 48) * 10 ^ r.length := Nat.mul_le_mul (by omega) h10
      omega
    have ih := dec_of_wf (n + 1) (a :: r) hi hwi
    rw [Dt.Dg.val_snoc]
    unfold Lib.decDigits
    rw [dif_neg (by omega)]
    rw [show (10 * Dt.Dg.val (a :: r) + (c.toNat - 48)) / 10 = Dt.Dg.val (a :: r) by omega, show (10 * Dt.Dg.val (a :: r) + (c.toNat - 48)) % 10 = c.toNat - 48 by omega, ih, ofNat_toNat48 hd]
theorem p18' : (10 : Nat) ^ 18 = 1000000000000000000 := by decide
theorem p20' : (10 : Nat) ^ 20 = 100000000000000000000 := by decide
theorem signed_dig {l : List UInt8} (h : l.all Dt.Dg.isDig = true) : Dt.Dg.signed l = false := by
  unfold Dt.Dg.signed
  cases l with
  | nil => rfl
  | cons a r =>
    have := List.all_eq_true.1 h a (by simp)
    have hn : a ≠ 45 := fun e => by subst e; exact absurd this (by decide)
    simpa using hn
theorem word_dec {u : Nat} (h : u < 18446744073709551616) : nk false (Lib.decDigits u) = true ∧ nv false (Lib.decDigits u) = u := by
  have := Dt.Dg.word_ok (n := 20) (Dt.Dg.dec_wf u) (Dt.Dg.dec_len_le u 20 (by omega) (by rw [p20']; omega)) (by rw [Dt.Dg.dec_val]; exact h)
  rw [Dt.Dg.dec_val] at this
  simp [nk, nv, this.1, this.2]
theorem word_read {t : List UInt8} (h : nk false t = true) : t = Lib.decDigits (nv false t) := by
  simp only [nk, Bool.false_eq_true, if_false, beq_iff_eq] at h
  simp only [nv, Bool.false_eq_true, if_false]
  unfold Dt.Dg.wordE at h
  split at h
  · split at h
    · rename_i h1 h2
      simp only [Bool.and_eq_true, decide_eq_true_eq] at h1
      rw [(Dt.Dg.word_ok h1.1 h1.2 h2).1]
      exact (dec_of_wf _ t rfl h1.1).symm
    · cases h
  · cases h
theorem cell_dec {u : Nat} (h : u ≤ 999999999999999999) : nk true (Lib.decDigits u) = true ∧ nv true (Lib.decDigits u) = u := by
  have hs := signed_dig (Dt.Dg.dec_all u)
  have hb := Dt.Dg.body_plain hs
  have hok := Dt.Dg.ok_plain hs (by rw [hb]; exact Dt.Dg.dec_wf u) (by rw [hb]; exact Dt.Dg.dec_len_le u 18 (by omega) (by rw [p18']; omega))
  have hnum : Dt.Dg.num (Lib.decDigits u) = (u : Int) := by rw [Dt.Dg.num_plain hs, hb, Dt.Dg.dec_val]
  have := Dt.Dg.parse_in (a := 0) (b := 9223372036854775807) hok (by rw [hnum]; omega) (by rw [hnum]; omega)
  rw [hnum] at this
  simp [nk, nv, this.1, this.2]
theorem cell_read {t : List UInt8} (h : nk true t = true) : t = Lib.decDigits (nv true t) ∧ nv true t ≤ 999999999999999999 := by
  simp only [nk, if_true, beq_iff_eq] at h
  simp only [nv, if_true]
  unfold Dt.Dg.parseE at h
  split at h
  · rename_i hok
    split at h
    · rename_i hr
      have hp := (Dt.Dg.parse_in hok hr.1 hr.2).1
      rw [hp]
      have hok' := hok
      unfold Dt.Dg.parseOk at hok
      simp only [Bool.and_eq_true, decide_eq_true_eq, Bool.not_eq_true', Bool.and_eq_false_iff, beq_eq_false_iff_ne] at hok
      obtain ⟨⟨hw, hl⟩, hz⟩ := hok
      cases hs : Dt.Dg.signed t with
      | true =>
        rw [Dt.Dg.num_signed hs] at hr
        rcases hz with hz | hz
        · rw [hs] at hz; cases hz
        · omega
      | false =>
        rw [Dt.Dg.num_plain hs]
        rw [Dt.Dg.body_plain hs] at hw hl ⊢
        rw [Int.toNat_natCast]
        have := Dt.Dg.word18 hw hl
        exact ⟨(dec_of_wf _ t rfl hw).symm, by omega⟩
    · cases h
  · cases h
/-- What is left of a text, from a blank on. -/
def full (st : List UInt8 × Bool) : List UInt8 := if st.2 then 32 :: st.1 else []
def okSt (st : List UInt8 × Bool) : Prop := st.2 = false → st.1 = []
theorem nk_nil (cell : Bool) : nk cell [] = false := by cases cell <;> rfl
theorem cut_full (l : List UInt8) : l = (cutS l).1 ++ full ((cutS l).2.1, (cutS l).2.2) ∧ okSt ((cutS l).2.1, (cutS l).2.2) := by
  obtain ⟨-, h2, h3⟩ := cutS_back l
  refine ⟨?_, h3⟩
  unfold full
  cases hm : (cutS l).2.2 with
  | true => rw [hm] at h2; simpa using h2
  | false => rw [hm] at h2; simpa using h2
theorem num_read {cell : Bool} {t : List UInt8} (h : nk cell t = true) : t = Lib.decDigits (nv cell t) ∧ (cell = true → nv cell t ≤ 999999999999999999) := by
  cases cell with
  | false => exact ⟨word_read h, fun e => by cases e⟩
  | true => exact ⟨(cell_read h).1, fun _ => (cell_read h).2⟩
/-- A field that is read is written as it stood. -/
theorem fld_some {f cell : Bool} {st : List UInt8 × Bool} {v : Nat} {st' : List UInt8 × Bool} (ho : okSt st) (h : fld f cell st = some (v, st')) :
    full st = Ac.part f (Lib.decDigits v) ++ full st' ∧ okSt st' ∧ v < 18446744073709551616 ∧ (cell = true → v ≤ 999999999999999999) := by
  unfold fld at h
  cases f with
  | false =>
    simp only [Bool.false_eq_true, if_false, Option.some.injEq, Prod.mk.injEq] at h
    obtain ⟨rfl, rfl⟩ := h
    exact ⟨by simp [Ac.part], ho, by decide, fun _ => by decide⟩
  | true =>
    simp only [if_true] at h
    split at h
    · rename_i hk
      simp only [Option.some.injEq, Prod.mk.injEq] at h
      obtain ⟨rfl, rfl⟩ := h
      obtain ⟨hc, hc'⟩ := cut_full st.1
      obtain ⟨ht, hv⟩ := num_read hk
      have hm : st.2 = true := by
        cases hm : st.2 with
        | true => rfl
        | false =>
          rw [ho hm] at hk
          rw [show (cutS []).1 = [] from rfl, nk_nil] at hk
          cases hk
      refine ⟨?_, hc', nv_lt _ _, hv⟩
      rw [← ht]
      unfold full at hc ⊢
      rw [hm]
      simp only [if_true, Ac.part]
      rw [List.cons_append]
      exact congrArg _ hc
    · cases h
/-- ████ What is read is an act that may be, and its text. ████ -/
theorem rd_some {s : List UInt8} {x : A} (h : rd s = some x) : Ac.right x = true ∧ Ac.text x = s ∧ x.c ≤ 999999999999999999 ∧ Fits x := by
  unfold rd at h
  simp only [Option.bind_eq_some_iff] at h
  obtain ⟨k, hk, ⟨b, s1⟩, hb, ⟨c, s2⟩, hc, ⟨o, s3⟩, ho, ⟨n, s4⟩, hn, h⟩ := h
  split at h
  · cases h
  · rename_i hm
    split at h
    · rename_i hr
      cases h
      obtain ⟨e0, o0⟩ := cut_full s
      obtain ⟨ew, hkn⟩ := kindL_some hk
      obtain ⟨e1, o1, b1, -⟩ := fld_some o0 hb
      obtain ⟨e2, o2, b2, c2⟩ := fld_some o1 hc
      obtain ⟨e3, o3, b3, -⟩ := fld_some o2 ho
      obtain ⟨e4, o4, b4, -⟩ := fld_some o3 hn
      have hc2 := c2 rfl
      refine ⟨hr, ?_, by simp only; omega, ⟨b1, by simp only; omega, by simp only; omega, b3, b4⟩⟩
      have hz : full s4 = [] := by unfold full; simp only at hm; rw [if_neg hm]
      rw [e0, ew]
      rw [e1, e2, e3, e4, hz]
      simp [Ac.text, List.append_assoc]
    · cases h
/-- A list that is empty, or begins with a blank. -/
def Bl (l : List UInt8) : Prop := l = [] ∨ ∃ r, l = 32 :: r
def sto (l : List UInt8) : List UInt8 × Bool := match l with | [] => ([], false) | _ :: r => (r, true)
theorem Bl.nil : Bl [] := .inl rfl
theorem Bl.part (f : Bool) (a : List UInt8) {l : List UInt8} (h : Bl l) : Bl (Ac.part f a ++ l) := by
  cases f with
  | false => simpa [Ac.part] using h
  | true => exact .inr ⟨a ++ l, by simp [Ac.part]⟩
theorem cut_sto {a l : List UInt8} (ha : (32 : UInt8) ∉ a) (h : Bl l) : cutS (a ++ l) = (a, (sto l).1, (sto l).2) := by
  rcases h with rfl | ⟨r, rfl⟩
  · rw [List.append_nil, cutS_end ha]; rfl
  · rw [cutS_app ha]; rfl
theorem fld_text {f cell : Bool} {v : Nat} {l : List UInt8} (hl : Bl l) (hv : v < 18446744073709551616) (hc : cell = true → v ≤ 999999999999999999) (hf : f = false → v = 0) :
    fld f cell (sto (Ac.part f (Lib.decDigits v) ++ l)) = some (v, sto l) := by
  cases f with
  | false => simp [fld, Ac.part, hf rfl]
  | true =>
    have e : sto (Ac.part true (Lib.decDigits v) ++ l) = (Lib.decDigits v ++ l, true) := by simp [Ac.part, sto]
    rw [e]
    unfold fld
    simp only [if_true]
    rw [cut_sto (dec_blank v) hl]
    have hn : nk cell (Lib.decDigits v) = true ∧ nv cell (Lib.decDigits v) = v := by
      cases cell with
      | false => exact word_dec hv
      | true => exact cell_dec (hc rfl)
    rw [hn.1, hn.2]
    rfl
/-- ████ The text of an act is read as that act. ████ -/
theorem rd_text {x : A} (hr : Ac.right x = true) (hf : Fits x) (hc : x.c ≤ 999999999999999999) : rd (Ac.text x) = some x := by
  obtain ⟨hk, h0, -, zb, zc, zo, zn⟩ := right_parts hr
  obtain ⟨k, b, c, o, n⟩ := x
  obtain ⟨c, rfl⟩ := Int.eq_ofNat_of_zero_le h0
  have fb := hf.b
  have fo := hf.o
  have fn := hf.n
  simp only at zb zc zo zn hk fb fo fn hc
  have L4 := Bl.part (Ac.fn k) (Lib.decDigits n) Bl.nil
  have L3 := Bl.part (Ac.fo k) (Lib.decDigits o) L4
  have L2 := Bl.part (Ac.fc k) (Lib.decDigits c) L3
  have L1 := Bl.part (Ac.fb k) (Lib.decDigits b) L2
  have et : Ac.text ⟨k, b, (c : Int), o, n⟩ = Ac.wordOf k ++ (Ac.part (Ac.fb k) (Lib.decDigits b) ++ (Ac.part (Ac.fc k) (Lib.decDigits c) ++ (Ac.part (Ac.fo k) (Lib.decDigits o) ++ (Ac.part (Ac.fn k) (Lib.decDigits n) ++ [])))) := by
    simp [Ac.text]
  rw [et]
  unfold rd
  rw [cut_sto (word_blank k) L1]
  simp only
  rw [kindL_word hk]
  simp only [Option.bind_some]
  have F1 := fld_text (f := Ac.fb k) (cell := false) L2 fb (fun e => by cases e) zb
  have F2 := fld_text (f := Ac.fc k) (cell := true) (v := c) L3 (by omega) (fun _ => by omega) (fun e => by have := zc e; omega)
  have F3 := fld_text (f := Ac.fo k) (cell := false) L4 fo (fun e => by cases e) zo
  have F4 := fld_text (f := Ac.fn k) (cell := false) Bl.nil fn (fun e => by cases e) zn
  rw [show (((sto (Ac.part (Ac.fb k) (Lib.decDigits b) ++ (Ac.part (Ac.fc k) (Lib.decDigits c) ++ (Ac.part (Ac.fo k) (Lib.decDigits o) ++ (Ac.part (Ac.fn k) (Lib.decDigits n) ++ []))))).1, (sto (Ac.part (Ac.fb k) (Lib.decDigits b) ++ (Ac.part (Ac.fc k) (Lib.decDigits c) ++ (Ac.part (Ac.fo k) (Lib.decDigits o) ++ (Ac.part (Ac.fn k) (Lib.decDigits n) ++ []))))).2) : List UInt8 × Bool) = sto (Ac.part (Ac.fb k) (Lib.decDigits b) ++ (Ac.part (Ac.fc k) (Lib.decDigits c) ++ (Ac.part (Ac.fo k) (Lib.decDigits o) ++ (Ac.part (Ac.fn k) (Lib.decDigits n) ++ [])))) from rfl, F1]
  simp only [Option.bind_some]
  rw [F2]
  simp only [Option.bind_some]
  rw [F3]
  simp only [Option.bind_some]
  rw [F4]
  simp only [Option.bind_some]
  rw [hr]
  rfl
end Go.Proofs.YthgabbkpjffdnaaDoor
set_option linter.unusedSimpArgs false
set_option linter.unusedVariables false
namespace Go.Proofs.YthgabbkpjffdnaaDoor
open Go.RowKit
open Ac (A)
/-- What is read, as a value. -/
def rdV : Option A → Value
  | none => readV 0 0 0 0 0 3
  | some x => readV x.k x.b x.c x.o x.n 0
theorem cutS_len : ∀ (l : List UInt8), (cutS l).1.length ≤ l.length ∧ (cutS l).2.1.length ≤ l.length
  | [] => by simp [cutS]
  | x :: l => by
    have := cutS_len l
    unfold cutS
    by_cases hx : x = 32
    · simp [hx]
    · rw [if_neg hx]; simp; omega
theorem cuts_of {l : List UInt8} (hl : l.length ≤ 1000000) {a r : List UInt8} {m : Bool} (h : cutS l = (a, r, m)) : Cuts ⟨l.toArray⟩ ⟨a.toArray⟩ ⟨r.toArray⟩ m := fun w => by
  have hs : (⟨l.toArray⟩ : ByteArray).size ≤ 1000000000000 := by simp [ByteArray.size]; omega
  have := cut_any ⟨l.toArray⟩ hs w
  unfold cutV at this
  simp only [List.toList_toArray, h] at this
  exact this
theorem cut_lens {l : List UInt8} (hl : l.length ≤ 1000000) {a r : List UInt8} {m : Bool} (h : cutS l = (a, r, m)) : a.length ≤ 1000000 ∧ r.length ≤ 1000000 := by
  have := cutS_len l
  rw [h] at this
  simp only at this
  omega
theorem nums_of (f : Int) {t : List UInt8} (hl : t.length ≤ 1000000) : Nums f ⟨t.toArray⟩ (nv (f == 1) t : Int) (nk (f == 1) t) := fun w => by
  have := number_any f ⟨t.toArray⟩ (by simp [ByteArray.size, maxLen]; omega) w
  simp only [List.toList_toArray] at this
  exact this
theorem kind_none {t : List UInt8} (h : kindL t = none) (w : World) (hN : Nm w) : Calls Tryd.prog 42 #[.string ⟨t.toArray⟩] w (Same (.tuple #[.int .i64 0, .bool false]) w) := by
  unfold kindL at h
  split at h; · cases h
  split at h; · cases h
  split at h; · cases h
  split at h; · cases h
  split at h; · cases h
  split at h; · cases h
  split at h; · cases h
  rename_i h0 h1 h2 h3 h4 h5 h6
  have e : (⟨t.toArray⟩ : ByteArray).toList = t := by rw [ByteArray.toList_eq]
  refine kind_no _ (by rw [e, beq_eq_false_iff_ne]; exact h0) (by rw [e, beq_eq_false_iff_ne]; exact h1) (by rw [e, beq_eq_false_iff_ne]; exact h2) (by rw [e, beq_eq_false_iff_ne]; exact h3) (by rw [e, beq_eq_false_iff_ne]; exact h4) (by rw [e, beq_eq_false_iff_ne]; exact h5) (by rw [e, beq_eq_false_iff_ne]; exact h6) w hN
theorem read_kind_0 (l : List UInt8) (l0 : List UInt8) (m0 : Bool) (h0 : cutS l = (Ac.wordOf 0, l0, m0)) (hk : kindL (Ac.wordOf 0) = some 0) (C0 : Cuts ⟨l.toArray⟩ ⟨(Ac.wordOf 0).toArray⟩ ⟨l0.toArray⟩ m0) (L0 : (Ac.wordOf 0).length ≤ 1000000 ∧ l0.length ≤ 1000000) (w : World) (hN : Nm w) : Calls Tryd.prog 20 #[.string ⟨l.toArray⟩] w (Gives (rdV (rd l)) w) := by
  cases hm : m0 with
  | true =>
    rw [hm] at C0
    have e : rd l = none := by simp [rd, fld, Ac.fb, Ac.fc, Ac.fo, Ac.fn, h0, hk, hm]
    rw [e]
    exact read_0_more _ _ w hN (Lib.hid C0)
  | false =>
    rw [hm] at C0
    have R := fun w => right_any (⟨0, 0, 0, 0, 0⟩ : A) (by first | (simp only; omega) | simp) w
    cases hr : Ac.right ⟨0, 0, 0, 0, 0⟩ with
    | true =>
      rw [hr] at R
      have e : rd l = some ⟨0, 0, 0, 0, 0⟩ := by simp [rd, fld, Ac.fb, Ac.fc, Ac.fo, Ac.fn, h0, hk, hm]; simpa using hr
      rw [e]
      exact read_0_yes _ _ w hN (Lib.hid C0) (Lib.hid R)
    | false =>
      exact absurd hr (by simp [Ac.right, Ac.known, Ac.fb, Ac.fc, Ac.fo, Ac.fn]; try omega)
theorem read_kind_1 (l : List UInt8) (l0 : List UInt8) (m0 : Bool) (h0 : cutS l = (Ac.wordOf 1, l0, m0)) (hk : kindL (Ac.wordOf 1) = some 1) (C0 : Cuts ⟨l.toArray⟩ ⟨(Ac.wordOf 1).toArray⟩ ⟨l0.toArray⟩ m0) (L0 : (Ac.wordOf 1).length ≤ 1000000 ∧ l0.length ≤ 1000000) (w : World) (hN : Nm w) : Calls Tryd.prog 20 #[.string ⟨l.toArray⟩] w (Gives (rdV (rd l)) w) := by
  obtain ⟨t1, l1, m1, h1⟩ : ∃ a b c, cutS l0 = (a, b, c) := ⟨_, _, _, rfl⟩
  have C1 := cuts_of L0.2 h1
  have L1 := cut_lens L0.2 h1
  have N1 := nums_of 0 L1.1
  simp only [show ((0 : Int) == 1) = false from rfl] at N1
  cases q1 : nk false t1 with
  | false =>
    rw [q1] at N1
    have e : rd l = none := by simp [rd, fld, Ac.fb, Ac.fc, Ac.fo, Ac.fn, h0, hk, h1, q1]
    rw [e]
    exact read_1_f0 _ _ _ w hN (Lib.hid C0) _ _ _ _ (Lib.hid C1) (Lib.hid N1)
  | true =>
    rw [q1] at N1
    obtain ⟨t2, l2, m2, h2⟩ : ∃ a b c, cutS l1 = (a, b, c) := ⟨_, _, _, rfl⟩
    have C2 := cuts_of L1.2 h2
    have L2 := cut_lens L1.2 h2
    have N2 := nums_of 1 L2.1
    simp only [show ((1 : Int) == 1) = true from rfl] at N2
    have hvc := nv_cell t2
    cases q2 : nk true t2 with
    | false =>
      rw [q2] at N2
      have e : rd l = none := by simp [rd, fld, Ac.fb, Ac.fc, Ac.fo, Ac.fn, h0, hk, h1, q1, h2, q2]
      rw [e]
      exact read_1_f1 _ _ _ w hN (Lib.hid C0) _ _ _ _ (Lib.hid C1) (Lib.hid N1) _ _ _ _ (Lib.hid C2) (Lib.hid N2) (by omega) (by omega)
    | true =>
      rw [q2] at N2
      cases hm : m2 with
      | true =>
        rw [hm] at C2
        have e : rd l = none := by simp [rd, fld, Ac.fb, Ac.fc, Ac.fo, Ac.fn, h0, hk, h1, q1, h2, q2, hm]
        rw [e]
        exact read_1_more _ _ _ w hN (Lib.hid C0) _ _ _ ((nv false t1 : Nat) : Int) (Lib.hid C1) (Lib.hid N1) _ _ ((nv true t2 : Nat) : Int) (Lib.hid C2) (Lib.hid N2) (by omega) (by omega)
      | false =>
        rw [hm] at C2
        have R := fun w => right_any (⟨1, nv false t1, ((nv true t2 : Nat) : Int), 0, 0⟩ : A) (by first | (simp only; omega) | simp) w
        cases hr : Ac.right ⟨1, nv false t1, ((nv true t2 : Nat) : Int), 0, 0⟩ with
        | true =>
          rw [hr] at R
          have e : rd l = some ⟨1, nv false t1, ((nv true t2 : Nat) : Int), 0, 0⟩ := by simp [rd, fld, Ac.fb, Ac.fc, Ac.fo, Ac.fn, h0, hk, h1, q1, h2, q2, hm]; simpa using hr
          rw [e]
          exact read_1_yes _ _ _ w hN (Lib.hid C0) _ _ _ ((nv false t1 : Nat) : Int) (Lib.hid C1) (Lib.hid N1) _ _ ((nv true t2 : Nat) : Int) (Lib.hid C2) (Lib.hid N2) (by omega) (by omega) (Lib.hid R)
        | false =>
          exact absurd hr (by simp [Ac.right, Ac.known, Ac.fb, Ac.fc, Ac.fo, Ac.fn]; try omega)
theorem read_kind_2 (l : List UInt8) (l0 : List UInt8) (m0 : Bool) (h0 : cutS l = (Ac.wordOf 2, l0, m0)) (hk : kindL (Ac.wordOf 2) = some 2) (C0 : Cuts ⟨l.toArray⟩ ⟨(Ac.wordOf 2).toArray⟩ ⟨l0.toArray⟩ m0) (L0 : (Ac.wordOf 2).length ≤ 1000000 ∧ l0.length ≤ 1000000) (w : World) (hN : Nm w) : Calls Tryd.prog 20 #[.string ⟨l.toArray⟩] w (Gives (rdV (rd l)) w) := by
  obtain ⟨t1, l1, m1, h1⟩ : ∃ a b c, cutS l0 = (a, b, c) := ⟨_, _, _, rfl⟩
  have C1 := cuts_of L0.2 h1
  have L1 := cut_lens L0.2 h1
  have N1 := nums_of 0 L1.1
  simp only [show ((0 : Int) == 1) = false from rfl] at N1
  cases q1 : nk false t1 with
  | false =>
    rw [q1] at N1
    have e : rd l = none := by simp [rd, fld, Ac.fb, Ac.fc, Ac.fo, Ac.fn, h0, hk, h1, q1]
    rw [e]
    exact read_2_f0 _ _ _ w hN (Lib.hid C0) _ _ _ _ (Lib.hid C1) (Lib.hid N1)
  | true =>
    rw [q1] at N1
    obtain ⟨t2, l2, m2, h2⟩ : ∃ a b c, cutS l1 = (a, b, c) := ⟨_, _, _, rfl⟩
    have C2 := cuts_of L1.2 h2
    have L2 := cut_lens L1.2 h2
    have N2 := nums_of 1 L2.1
    simp only [show ((1 : Int) == 1) = true from rfl] at N2
    have hvc := nv_cell t2
    cases q2 : nk true t2 with
    | false =>
      rw [q2] at N2
      have e : rd l = none := by simp [rd, fld, Ac.fb, Ac.fc, Ac.fo, Ac.fn, h0, hk, h1, q1, h2, q2]
      rw [e]
      exact read_2_f1 _ _ _ w hN (Lib.hid C0) _ _ _ _ (Lib.hid C1) (Lib.hid N1) _ _ _ _ (Lib.hid C2) (Lib.hid N2) (by omega) (by omega)
    | true =>
      rw [q2] at N2
      obtain ⟨t3, l3, m3, h3⟩ : ∃ a b c, cutS l2 = (a, b, c) := ⟨_, _, _, rfl⟩
      have C3 := cuts_of L2.2 h3
      have L3 := cut_lens L2.2 h3
      have N3 := nums_of 3 L3.1
      simp only [show ((3 : Int) == 1) = false from rfl] at N3
      cases q3 : nk false t3 with
      | false =>
        rw [q3] at N3
        have e : rd l = none := by simp [rd, fld, Ac.fb, Ac.fc, Ac.fo, Ac.fn, h0, hk, h1, q1, h2, q2, h3, q3]
        rw [e]
        exact read_2_f2 _ _ _ w hN (Lib.hid C0) _ _ _ _ (Lib.hid C1) (Lib.hid N1) _ _ _ _ (Lib.hid C2) (Lib.hid N2) (by omega) (by omega) _ _ _ _ (Lib.hid C3) (Lib.hid N3)
      | true =>
        rw [q3] at N3
        cases hm : m3 with
        | true =>
          rw [hm] at C3
          have e : rd l = none := by simp [rd, fld, Ac.fb, Ac.fc, Ac.fo, Ac.fn, h0, hk, h1, q1, h2, q2, h3, q3, hm]
          rw [e]
          exact read_2_more _ _ _ w hN (Lib.hid C0) _ _ _ ((nv false t1 : Nat) : Int) (Lib.hid C1) (Lib.hid N1) _ _ _ ((nv true t2 : Nat) : Int) (Lib.hid C2) (Lib.hid N2) (by omega) (by omega) _ _ ((nv false t3 : Nat) : Int) (Lib.hid C3) (Lib.hid N3)
        | false =>
          rw [hm] at C3
          have R := fun w => right_any (⟨2, nv false t1, ((nv true t2 : Nat) : Int), 0, nv false t3⟩ : A) (by first | (simp only; omega) | simp) w
          cases hr : Ac.right ⟨2, nv false t1, ((nv true t2 : Nat) : Int), 0, nv false t3⟩ with
          | true =>
            rw [hr] at R
            have e : rd l = some ⟨2, nv false t1, ((nv true t2 : Nat) : Int), 0, nv false t3⟩ := by simp [rd, fld, Ac.fb, Ac.fc, Ac.fo, Ac.fn, h0, hk, h1, q1, h2, q2, h3, q3, hm]; simpa using hr
            rw [e]
            exact read_2_yes _ _ _ w hN (Lib.hid C0) _ _ _ ((nv false t1 : Nat) : Int) (Lib.hid C1) (Lib.hid N1) _ _ _ ((nv true t2 : Nat) : Int) (Lib.hid C2) (Lib.hid N2) (by omega) (by omega) _ _ ((nv false t3 : Nat) : Int) (Lib.hid C3) (Lib.hid N3) (Lib.hid R)
          | false =>
            exact absurd hr (by simp [Ac.right, Ac.known, Ac.fb, Ac.fc, Ac.fo, Ac.fn]; try omega)
theorem read_kind_3 (l : List UInt8) (l0 : List UInt8) (m0 : Bool) (h0 : cutS l = (Ac.wordOf 3, l0, m0)) (hk : kindL (Ac.wordOf 3) = some 3) (C0 : Cuts ⟨l.toArray⟩ ⟨(Ac.wordOf 3).toArray⟩ ⟨l0.toArray⟩ m0) (L0 : (Ac.wordOf 3).length ≤ 1000000 ∧ l0.length ≤ 1000000) (w : World) (hN : Nm w) : Calls Tryd.prog 20 #[.string ⟨l.toArray⟩] w (Gives (rdV (rd l)) w) := by
  obtain ⟨t1, l1, m1, h1⟩ : ∃ a b c, cutS l0 = (a, b, c) := ⟨_, _, _, rfl⟩
  have C1 := cuts_of L0.2 h1
  have L1 := cut_lens L0.2 h1
  have N1 := nums_of 0 L1.1
  simp only [show ((0 : Int) == 1) = false from rfl] at N1
  cases q1 : nk false t1 with
  | false =>
    rw [q1] at N1
    have e : rd l = none := by simp [rd, fld, Ac.fb, Ac.fc, Ac.fo, Ac.fn, h0, hk, h1, q1]
    rw [e]
    exact read_3_f0 _ _ _ w hN (Lib.hid C0) _ _ _ _ (Lib.hid C1) (Lib.hid N1)
  | true =>
    rw [q1] at N1
    obtain ⟨t2, l2, m2, h2⟩ : ∃ a b c, cutS l1 = (a, b, c) := ⟨_, _, _, rfl⟩
    have C2 := cuts_of L1.2 h2
    have L2 := cut_lens L1.2 h2
    have N2 := nums_of 1 L2.1
    simp only [show ((1 : Int) == 1) = true from rfl] at N2
    have hvc := nv_cell t2
    cases q2 : nk true t2 with
    | false =>
      rw [q2] at N2
      have e : rd l = none := by simp [rd, fld, Ac.fb, Ac.fc, Ac.fo, Ac.fn, h0, hk, h1, q1, h2, q2]
      rw [e]
      exact read_3_f1 _ _ _ w hN (Lib.hid C0) _ _ _ _ (Lib.hid C1) (Lib.hid N1) _ _ _ _ (Lib.hid C2) (Lib.hid N2) (by omega) (by omega)
    | true =>
      rw [q2] at N2
      obtain ⟨t3, l3, m3, h3⟩ : ∃ a b c, cutS l2 = (a, b, c) := ⟨_, _, _, rfl⟩
      have C3 := cuts_of L2.2 h3
      have L3 := cut_lens L2.2 h3
      have N3 := nums_of 2 L3.1
      simp only [show ((2 : Int) == 1) = false from rfl] at N3
      cases q3 : nk false t3 with
      | false =>
        rw [q3] at N3
        have e : rd l = none := by simp [rd, fld, Ac.fb, Ac.fc, Ac.fo, Ac.fn, h0, hk, h1, q1, h2, q2, h3, q3]
        rw [e]
        exact read_3_f2 _ _ _ w hN (Lib.hid C0) _ _ _ _ (Lib.hid C1) (Lib.hid N1) _ _ _ _ (Lib.hid C2) (Lib.hid N2) (by omega) (by omega) _ _ _ _ (Lib.hid C3) (Lib.hid N3)
      | true =>
        rw [q3] at N3
        obtain ⟨t4, l4, m4, h4⟩ : ∃ a b c, cutS l3 = (a, b, c) := ⟨_, _, _, rfl⟩
        have C4 := cuts_of L3.2 h4
        have L4 := cut_lens L3.2 h4
        have N4 := nums_of 3 L4.1
        simp only [show ((3 : Int) == 1) = false from rfl] at N4
        cases q4 : nk false t4 with
        | false =>
          rw [q4] at N4
          have e : rd l = none := by simp [rd, fld, Ac.fb, Ac.fc, Ac.fo, Ac.fn, h0, hk, h1, q1, h2, q2, h3, q3, h4, q4]
          rw [e]
          exact read_3_f3 _ _ _ w hN (Lib.hid C0) _ _ _ _ (Lib.hid C1) (Lib.hid N1) _ _ _ _ (Lib.hid C2) (Lib.hid N2) (by omega) (by omega) _ _ _ _ (Lib.hid C3) (Lib.hid N3) _ _ _ _ (Lib.hid C4) (Lib.hid N4)
        | true =>
          rw [q4] at N4
          cases hm : m4 with
          | true =>
            rw [hm] at C4
            have e : rd l = none := by simp [rd, fld, Ac.fb, Ac.fc, Ac.fo, Ac.fn, h0, hk, h1, q1, h2, q2, h3, q3, h4, q4, hm]
            rw [e]
            exact read_3_more _ _ _ w hN (Lib.hid C0) _ _ _ ((nv false t1 : Nat) : Int) (Lib.hid C1) (Lib.hid N1) _ _ _ ((nv true t2 : Nat) : Int) (Lib.hid C2) (Lib.hid N2) (by omega) (by omega) _ _ _ ((nv false t3 : Nat) : Int) (Lib.hid C3) (Lib.hid N3) _ _ ((nv false t4 : Nat) : Int) (Lib.hid C4) (Lib.hid N4)
          | false =>
            rw [hm] at C4
            have R := fun w => right_any (⟨3, nv false t1, ((nv true t2 : Nat) : Int), nv false t3, nv false t4⟩ : A) (by first | (simp only; omega) | simp) w
            cases hr : Ac.right ⟨3, nv false t1, ((nv true t2 : Nat) : Int), nv false t3, nv false t4⟩ with
            | true =>
              rw [hr] at R
              have e : rd l = some ⟨3, nv false t1, ((nv true t2 : Nat) : Int), nv false t3, nv false t4⟩ := by simp [rd, fld, Ac.fb, Ac.fc, Ac.fo, Ac.fn, h0, hk, h1, q1, h2, q2, h3, q3, h4, q4, hm]; simpa using hr
              rw [e]
              exact read_3_yes _ _ _ w hN (Lib.hid C0) _ _ _ ((nv false t1 : Nat) : Int) (Lib.hid C1) (Lib.hid N1) _ _ _ ((nv true t2 : Nat) : Int) (Lib.hid C2) (Lib.hid N2) (by omega) (by omega) _ _ _ ((nv false t3 : Nat) : Int) (Lib.hid C3) (Lib.hid N3) _ _ ((nv false t4 : Nat) : Int) (Lib.hid C4) (Lib.hid N4) (Lib.hid R)
            | false =>
              exact absurd hr (by simp [Ac.right, Ac.known, Ac.fb, Ac.fc, Ac.fo, Ac.fn]; try omega)
theorem read_kind_4 (l : List UInt8) (l0 : List UInt8) (m0 : Bool) (h0 : cutS l = (Ac.wordOf 4, l0, m0)) (hk : kindL (Ac.wordOf 4) = some 4) (C0 : Cuts ⟨l.toArray⟩ ⟨(Ac.wordOf 4).toArray⟩ ⟨l0.toArray⟩ m0) (L0 : (Ac.wordOf 4).length ≤ 1000000 ∧ l0.length ≤ 1000000) (w : World) (hN : Nm w) : Calls Tryd.prog 20 #[.string ⟨l.toArray⟩] w (Gives (rdV (rd l)) w) := by
  obtain ⟨t1, l1, m1, h1⟩ : ∃ a b c, cutS l0 = (a, b, c) := ⟨_, _, _, rfl⟩
  have C1 := cuts_of L0.2 h1
  have L1 := cut_lens L0.2 h1
  have N1 := nums_of 0 L1.1
  simp only [show ((0 : Int) == 1) = false from rfl] at N1
  cases q1 : nk false t1 with
  | false =>
    rw [q1] at N1
    have e : rd l = none := by simp [rd, fld, Ac.fb, Ac.fc, Ac.fo, Ac.fn, h0, hk, h1, q1]
    rw [e]
    exact read_4_f0 _ _ _ w hN (Lib.hid C0) _ _ _ _ (Lib.hid C1) (Lib.hid N1)
  | true =>
    rw [q1] at N1
    obtain ⟨t2, l2, m2, h2⟩ : ∃ a b c, cutS l1 = (a, b, c) := ⟨_, _, _, rfl⟩
    have C2 := cuts_of L1.2 h2
    have L2 := cut_lens L1.2 h2
    have N2 := nums_of 1 L2.1
    simp only [show ((1 : Int) == 1) = true from rfl] at N2
    have hvc := nv_cell t2
    cases q2 : nk true t2 with
    | false =>
      rw [q2] at N2
      have e : rd l = none := by simp [rd, fld, Ac.fb, Ac.fc, Ac.fo, Ac.fn, h0, hk, h1, q1, h2, q2]
      rw [e]
      exact read_4_f1 _ _ _ w hN (Lib.hid C0) _ _ _ _ (Lib.hid C1) (Lib.hid N1) _ _ _ _ (Lib.hid C2) (Lib.hid N2) (by omega) (by omega)
    | true =>
      rw [q2] at N2
      obtain ⟨t3, l3, m3, h3⟩ : ∃ a b c, cutS l2 = (a, b, c) := ⟨_, _, _, rfl⟩
      have C3 := cuts_of L2.2 h3
      have L3 := cut_lens L2.2 h3
      have N3 := nums_of 3 L3.1
      simp only [show ((3 : Int) == 1) = false from rfl] at N3
      cases q3 : nk false t3 with
      | false =>
        rw [q3] at N3
        have e : rd l = none := by simp [rd, fld, Ac.fb, Ac.fc, Ac.fo, Ac.fn, h0, hk, h1, q1, h2, q2, h3, q3]
        rw [e]
        exact read_4_f2 _ _ _ w hN (Lib.hid C0) _ _ _ _ (Lib.hid C1) (Lib.hid N1) _ _ _ _ (Lib.hid C2) (Lib.hid N2) (by omega) (by omega) _ _ _ _ (Lib.hid C3) (Lib.hid N3)
      | true =>
        rw [q3] at N3
        cases hm : m3 with
        | true =>
          rw [hm] at C3
          have e : rd l = none := by simp [rd, fld, Ac.fb, Ac.fc, Ac.fo, Ac.fn, h0, hk, h1, q1, h2, q2, h3, q3, hm]
          rw [e]
          exact read_4_more _ _ _ w hN (Lib.hid C0) _ _ _ ((nv false t1 : Nat) : Int) (Lib.hid C1) (Lib.hid N1) _ _ _ ((nv true t2 : Nat) : Int) (Lib.hid C2) (Lib.hid N2) (by omega) (by omega) _ _ ((nv false t3 : Nat) : Int) (Lib.hid C3) (Lib.hid N3)
        | false =>
          rw [hm] at C3
          have R := fun w => right_any (⟨4, nv false t1, ((nv true t2 : Nat) : Int), 0, nv false t3⟩ : A) (by first | (simp only; omega) | simp) w
          cases hr : Ac.right ⟨4, nv false t1, ((nv true t2 : Nat) : Int), 0, nv false t3⟩ with
          | true =>
            rw [hr] at R
            have e : rd l = some ⟨4, nv false t1, ((nv true t2 : Nat) : Int), 0, nv false t3⟩ := by simp [rd, fld, Ac.fb, Ac.fc, Ac.fo, Ac.fn, h0, hk, h1, q1, h2, q2, h3, q3, hm]; simpa using hr
            rw [e]
            exact read_4_yes _ _ _ w hN (Lib.hid C0) _ _ _ ((nv false t1 : Nat) : Int) (Lib.hid C1) (Lib.hid N1) _ _ _ ((nv true t2 : Nat) : Int) (Lib.hid C2) (Lib.hid N2) (by omega) (by omega) _ _ ((nv false t3 : Nat) : Int) (Lib.hid C3) (Lib.hid N3) (Lib.hid R)
          | false =>
            exact absurd hr (by simp [Ac.right, Ac.known, Ac.fb, Ac.fc, Ac.fo, Ac.fn]; try omega)
theorem read_kind_5 (l : List UInt8) (l0 : List UInt8) (m0 : Bool) (h0 : cutS l = (Ac.wordOf 5, l0, m0)) (hk : kindL (Ac.wordOf 5) = some 5) (C0 : Cuts ⟨l.toArray⟩ ⟨(Ac.wordOf 5).toArray⟩ ⟨l0.toArray⟩ m0) (L0 : (Ac.wordOf 5).length ≤ 1000000 ∧ l0.length ≤ 1000000) (w : World) (hN : Nm w) : Calls Tryd.prog 20 #[.string ⟨l.toArray⟩] w (Gives (rdV (rd l)) w) := by
  obtain ⟨t1, l1, m1, h1⟩ : ∃ a b c, cutS l0 = (a, b, c) := ⟨_, _, _, rfl⟩
  have C1 := cuts_of L0.2 h1
  have L1 := cut_lens L0.2 h1
  have N1 := nums_of 1 L1.1
  simp only [show ((1 : Int) == 1) = true from rfl] at N1
  have hvc := nv_cell t1
  cases q1 : nk true t1 with
  | false =>
    rw [q1] at N1
    have e : rd l = none := by simp [rd, fld, Ac.fb, Ac.fc, Ac.fo, Ac.fn, h0, hk, h1, q1]
    rw [e]
    exact read_5_f0 _ _ _ w hN (Lib.hid C0) _ _ _ _ (Lib.hid C1) (Lib.hid N1) (by omega) (by omega)
  | true =>
    rw [q1] at N1
    cases hm : m1 with
    | true =>
      rw [hm] at C1
      have e : rd l = none := by simp [rd, fld, Ac.fb, Ac.fc, Ac.fo, Ac.fn, h0, hk, h1, q1, hm]
      rw [e]
      exact read_5_more _ _ _ w hN (Lib.hid C0) _ _ ((nv true t1 : Nat) : Int) (Lib.hid C1) (Lib.hid N1) (by omega) (by omega)
    | false =>
      rw [hm] at C1
      have R := fun w => right_any (⟨5, 0, ((nv true t1 : Nat) : Int), 0, 0⟩ : A) (by first | (simp only; omega) | simp) w
      cases hr : Ac.right ⟨5, 0, ((nv true t1 : Nat) : Int), 0, 0⟩ with
      | true =>
        rw [hr] at R
        have e : rd l = some ⟨5, 0, ((nv true t1 : Nat) : Int), 0, 0⟩ := by simp [rd, fld, Ac.fb, Ac.fc, Ac.fo, Ac.fn, h0, hk, h1, q1, hm]; simpa using hr
        rw [e]
        exact read_5_yes _ _ _ w hN (Lib.hid C0) _ _ ((nv true t1 : Nat) : Int) (Lib.hid C1) (Lib.hid N1) (by omega) (by omega) (Lib.hid R)
      | false =>
        rw [hr] at R
        have e : rd l = none := by simp [rd, fld, Ac.fb, Ac.fc, Ac.fo, Ac.fn, h0, hk, h1, q1, hm]; simpa using hr
        rw [e]
        exact read_5_no _ _ _ w hN (Lib.hid C0) _ _ ((nv true t1 : Nat) : Int) (Lib.hid C1) (Lib.hid N1) (by omega) (by omega) (Lib.hid R)
theorem read_kind_6 (l : List UInt8) (l0 : List UInt8) (m0 : Bool) (h0 : cutS l = (Ac.wordOf 6, l0, m0)) (hk : kindL (Ac.wordOf 6) = some 6) (C0 : Cuts ⟨l.toArray⟩ ⟨(Ac.wordOf 6).toArray⟩ ⟨l0.toArray⟩ m0) (L0 : (Ac.wordOf 6).length ≤ 1000000 ∧ l0.length ≤ 1000000) (w : World) (hN : Nm w) : Calls Tryd.prog 20 #[.string ⟨l.toArray⟩] w (Gives (rdV (rd l)) w) := by
  obtain ⟨t1, l1, m1, h1⟩ : ∃ a b c, cutS l0 = (a, b, c) := ⟨_, _, _, rfl⟩
  have C1 := cuts_of L0.2 h1
  have L1 := cut_lens L0.2 h1
  have N1 := nums_of 0 L1.1
  simp only [show ((0 : Int) == 1) = false from rfl] at N1
  cases q1 : nk false t1 with
  | false =>
    rw [q1] at N1
    have e : rd l = none := by simp [rd, fld, Ac.fb, Ac.fc, Ac.fo, Ac.fn, h0, hk, h1, q1]
    rw [e]
    exact read_6_f0 _ _ _ w hN (Lib.hid C0) _ _ _ _ (Lib.hid C1) (Lib.hid N1)
  | true =>
    rw [q1] at N1
    cases hm : m1 with
    | true =>
      rw [hm] at C1
      have e : rd l = none := by simp [rd, fld, Ac.fb, Ac.fc, Ac.fo, Ac.fn, h0, hk, h1, q1, hm]
      rw [e]
      exact read_6_more _ _ _ w hN (Lib.hid C0) _ _ ((nv false t1 : Nat) : Int) (Lib.hid C1) (Lib.hid N1)
    | false =>
      rw [hm] at C1
      have R := fun w => right_any (⟨6, nv false t1, 0, 0, 0⟩ : A) (by first | (simp only; omega) | simp) w
      cases hr : Ac.right ⟨6, nv false t1, 0, 0, 0⟩ with
      | true =>
        rw [hr] at R
        have e : rd l = some ⟨6, nv false t1, 0, 0, 0⟩ := by simp [rd, fld, Ac.fb, Ac.fc, Ac.fo, Ac.fn, h0, hk, h1, q1, hm]; simpa using hr
        rw [e]
        exact read_6_yes _ _ _ w hN (Lib.hid C0) _ _ ((nv false t1 : Nat) : Int) (Lib.hid C1) (Lib.hid N1) (Lib.hid R)
      | false =>
        exact absurd hr (by simp [Ac.right, Ac.known, Ac.fb, Ac.fc, Ac.fo, Ac.fn]; try omega)
/-- ████ Read. ████ -/
theorem read_list (l : List UInt8) (hl : l.length ≤ 1000000) (w : World) (hN : Nm w) : Calls Tryd.prog 20 #[.string ⟨l.toArray⟩] w (Gives (rdV (rd l)) w) := by
  obtain ⟨nm, l0, m0, h0⟩ : ∃ a b c, cutS l = (a, b, c) := ⟨_, _, _, rfl⟩
  have C0 := cuts_of hl h0
  have L0 := cut_lens hl h0
  cases hk : kindL nm with
  | none =>
    have e : rd l = none := by simp [rd, h0, hk]
    rw [e]
    exact read_unknown _ _ _ _ w hN (Lib.hid C0) (Lib.hid fun w h => kind_none hk w h)
  | some k =>
    obtain ⟨rfl, hkn⟩ := kindL_some hk
    rcases Ac.kinds hkn with rfl | rfl | rfl | rfl | rfl | rfl | rfl
    · exact read_kind_0 l l0 m0 h0 hk C0 L0 w hN
    · exact read_kind_1 l l0 m0 h0 hk C0 L0 w hN
    · exact read_kind_2 l l0 m0 h0 hk C0 L0 w hN
    · exact read_kind_3 l l0 m0 h0 hk C0 L0 w hN
    · exact read_kind_4 l l0 m0 h0 hk C0 L0 w hN
    · exact read_kind_5 l l0 m0 h0 hk C0 L0 w hN
    · exact read_kind_6 l l0 m0 h0 hk C0 L0 w hN
theorem read_any (s : ByteArray) (hs : s.size ≤ 1000000) (w : World) (hN : Nm w) : Calls Tryd.prog 20 #[.string s] w (Gives (rdV (rd s.data.toList)) w) := by
  obtain ⟨⟨l⟩⟩ := s
  exact read_list l (by simpa [ByteArray.size] using hs) w hN
end Go.Proofs.YthgabbkpjffdnaaDoor
set_option linter.unusedSimpArgs false
set_option linter.unusedVariables false
namespace Go.Proofs.YthgabbkpjffdnaaDoor
open Go.RowKit Go.Maps
open Mm (Mem Blk)
open Ac (A)
theorem small_fits {k : Int} {b : Nat} {c : Int} {o n : Nat} (hb : b ≤ 100) (hc : 0 ≤ c ∧ c ≤ 100) (ho : o ≤ 100) (hn : n ≤ 100) : Fits ⟨k, b, c, o, n⟩ :=
  ⟨by simp only; omega, by simp only; omega, by simp only; omega, by simp only; omega, by simp only; omega⟩
theorem rd1 : rd [99, 97, 115, 32, 50, 32, 49, 32, 48, 32, 55] = some ⟨3, 2, 1, 0, 7⟩ := by
  have h := rd_text (x := ⟨3, 2, 1, 0, 7⟩) (by decide) (small_fits (by omega) (by omega) (by omega) (by omega)) (by simp)
  have e : Ac.text ⟨3, 2, 1, 0, 7⟩ = [99, 97, 115, 32, 50, 32, 49, 32, 48, 32, 55] := by
    simp [Ac.text, Ac.wordOf, Ac.part, Ac.fb, Ac.fc, Ac.fo, Ac.fn, Lib.decDigits]
  rw [e] at h
  exact h
theorem rd2 : rd [108, 111, 97, 100, 32, 50] = none := by
  have h : (rd [108, 111, 97, 100, 32, 50]).isNone = true := by decide +kernel
  exact Option.isNone_iff_eq_none.1 h
theorem tx0 : tx ⟨0, 0, 0, 0, 0⟩ = [110, 111, 110, 101] := by
  simp [tx, Ac.text, Ac.wordOf, Ac.part, Ac.fb, Ac.fc, Ac.fo, Ac.fn, Ac.right, Ac.known]
abbrev s0 : Mem := ⟨9, 0, 0, []⟩
abbrev s1 : Mem := ⟨9, 1, 0, [(1, [0, 0, 0])]⟩
abbrev s2 : Mem := ⟨9, 1, 0, [(1, [0, 0, 5])]⟩
theorem it1 : DoesIt s0 ⟨5, 0, 3, 0, 0⟩ 1 s1 := fun B w p F h hB => dstep5 _ 0 3 0 0 1 0 w _ (by decide) (by decide) fun w1 hw1 => of_turns hw1 (alloc_ok (S := s0) (ax_at hw1 h) (Nat.le_trans hB hw1.size) 3 (by omega) (by simp [Mm.used]) (by simp))
theorem it2 : DoesIt s1 ⟨2, 1, 2, 0, 5⟩ 0 s2 := fun B w p F h hB => dstep2 _ 1 2 0 5 0 0 w _ (by decide) (by decide) fun w1 hw1 => of_turns hw1 (store_ok (S := s1) (ax_at hw1 h) (by omega) (ws := [0, 0, 0]) rfl 2 (by simp) 5)
theorem it3 : DoesIt s2 ⟨1, 1, 2, 0, 0⟩ 5 s2 := fun B w p F h hB => dstep1 _ 1 2 0 0 5 0 w _ (by decide) (by decide) fun w1 hw1 => of_same hw1 (ax_at hw1 h) (load_ok (S := s2) (ax_at hw1 h) (by omega) (ws := [0, 0, 5]) rfl 2 rfl)
/-- What an act does, seen from below the arena. -/
theorem DoesIt.goes {S S' : Mem} {x : A} {v : Int} (h : DoesIt S x v S') {B p : Nat} {w : World} {F : Nat → Prop} (ha : Ax B w p S F) (hB : B ≤ w.heap.size) : Calls Tryd.prog 6 #[.pointer (some ⟨p, 0, none⟩), av x] w (Goes (.int .u64 v) B p S' w) :=
  (h B w p F ha hB).mono fun _ _ ht => ht.goes ha hB
/-- A new arena. -/
def Made (n : Nat) (w : World) (e : Ending) (w' : World) : Prop := ∃ p, e = .returned (.pointer (some ⟨p, 0, none⟩)) ∧ w.heap.size ≤ p ∧ ∃ F, Ax w.heap.size w' p ⟨n, 0, 0, []⟩ F ∧ Below w.heap.size w w'
theorem made_new (n : Nat) (h1 : 1 ≤ n) (h2 : n ≤ 65536) (w : World) : Calls Tryd.prog 8 #[.int .i64 (n : Int)] w (Made n w) :=
  (new_ok n h1 h2 w).mono fun _ _ ⟨he, F, hA, hb, _⟩ => ⟨_, he, by omega, F, hA, hb⟩
set_option maxRecDepth 100000 in
set_option maxHeartbeats 8000000 in
/-- ████ awake. ████ -/
theorem awake_any (w : World) (hN : Nm w) (hP : Dt.Pow w) : Calls Tryd.prog 7 #[] w (Gives (.bool true) w) := by
  have K1 : Hid (Calls Tryd.prog 20 #[.string ⟨#[99, 97, 115, 32, 50, 32, 49, 32, 48, 32, 55]⟩] w (Gives (.tuple #[.agg #[.int .i64 3, .int .u64 2, .int .i64 1, .int .u64 0, .int .u64 7], .int .i64 0]) w)) := Lib.hid (by
    have := read_list [99, 97, 115, 32, 50, 32, 49, 32, 48, 32, 55] (by simp) w hN
    rw [rd1] at this
    exact this)
  have K2 : Hid (∀ w', Below w.heap.size w w' → Calls Tryd.prog 20 #[.string ⟨#[108, 111, 97, 100, 32, 50]⟩] w' (Gives (.tuple #[.agg #[.int .i64 0, .int .u64 0, .int .i64 0, .int .u64 0, .int .u64 0], .int .i64 3]) w')) := Lib.hid (fun w' hb => by
    have := read_list [108, 111, 97, 100, 32, 50] (by simp) w' (hN.below hb)
    rw [rd2] at this
    exact this)
  have K3 : Hid (∀ w', Calls Tryd.prog 12 #[.agg #[.int .i64 3, .int .u64 2, .int .i64 1, .int .u64 0, .int .u64 7]] w' (Gives (.bool true) w')) := Lib.hid (fun w' => writes_any ⟨3, 2, 1, 0, 7⟩ (by decide) w')
  have K4 : Hid (∀ w', Below w.heap.size w w' → Calls Tryd.prog 22 #[.agg #[.int .i64 0, .int .u64 0, .int .i64 0, .int .u64 0, .int .u64 0]] w' (Gives (.string ⟨#[110, 111, 110, 101]⟩) w')) := Lib.hid (fun w' hb => by
    have := text_any ⟨0, 0, 0, 0, 0⟩ (small_fits (by omega) (by omega) (by omega) (by omega)) w' (hN.below hb) (hP.below hb)
    rw [tx0] at this
    exact this)
  have K5 : Hid (∀ w', Calls Tryd.prog 8 #[.int .i64 9] w' (Made 9 w')) := Lib.hid (fun w' => made_new 9 (by omega) (by omega) w')
  have E := eq_act 3 2 1 0 7 3 2 1 0 7
  rw [show eqB 3 2 1 0 7 3 2 1 0 7 = true from rfl] at E
  clear hN hP
  go_enter Tryd.func7, Tryd.ntmps7
  go_wp2_with fail
  with_reducible refine K1.out.mono ?_
  rintro e w1 ⟨rfl, hb⟩
  have B := Lib.hid hb; clear hb
  have BA := Lib.hid (B.out.alloc B.out.size (.cells #[.int .i64 3, .int .u64 2, .int .i64 1, .int .u64 0, .int .u64 7] 26))
  go_wp2_with fail
  with_reducible refine (K2.out _ BA.out).mono ?_
  rintro e w2 ⟨rfl, hb⟩
  have HX := Lib.hid hb
  have B := Lib.hid (BA.out.trans (hb.mono BA.out.size)); clear hb
  go_wp2_with fail
  obtain ⟨WB, hWB⟩ : ∃ WB, WB = w2.alloc (.cells #[.int .i64 0, .int .u64 0, .int .i64 0, .int .u64 0, .int .u64 0] 26) := ⟨_, rfl⟩
  have hbZ : Below w2.heap.size w2 WB := by rw [hWB]; exact (Below.refl w2.heap.size w2).alloc (Nat.le_refl _) _
  rw [← hWB]
  clear hWB
  have HX := Lib.hid (HX.out.trans (hbZ.mono HX.out.size))
  have B := Lib.hid (B.out.trans (hbZ.mono B.out.size))
  clear hbZ
  with_reducible refine (K5.out _).mono ?_
  rintro e w3 ⟨p, rfl, hp, F, hA, hb⟩
  have hZ : Hid (w.heap.size ≤ WB.heap.size) := Lib.hid B.out.size
  have hY : Hid ((w1.alloc (.cells #[.int .i64 3, .int .u64 2, .int .i64 1, .int .u64 0, .int .u64 7] 26)).heap.size ≤ WB.heap.size) := Lib.hid HX.out.size
  have BZ := Lib.hid hb
  have HA : Hid (Calls Tryd.prog 6 #[.pointer (some ⟨p, 0, none⟩), .agg #[.int .i64 5, .int .u64 0, .int .i64 3, .int .u64 0, .int .u64 0]] w3 (Goes (.int .u64 1) WB.heap.size p s1 w3)) := Lib.hid (it1.goes hA hb.size); clear hA hb hp
  go_wp2_with fail
  with_reducible refine HA.out.mono ?_
  rintro e w4 ⟨rfl, F1, hA, hb⟩
  have BZ := Lib.hid (BZ.out.trans hb)
  have HA : Hid (Calls Tryd.prog 6 #[.pointer (some ⟨p, 0, none⟩), .agg #[.int .i64 2, .int .u64 1, .int .i64 2, .int .u64 0, .int .u64 5]] w4 (Goes (.int .u64 0) WB.heap.size p s2 w4)) := Lib.hid (it2.goes hA BZ.out.size); clear hA hb
  go_wp2_with fail
  with_reducible refine HA.out.mono ?_
  rintro e w5 ⟨rfl, F2, hA, hb⟩
  have BZ := Lib.hid (BZ.out.trans hb)
  have HA : Hid (Calls Tryd.prog 6 #[.pointer (some ⟨p, 0, none⟩), .agg #[.int .i64 1, .int .u64 1, .int .i64 2, .int .u64 0, .int .u64 0]] w5 (Goes (.int .u64 5) WB.heap.size p s2 w5)) := Lib.hid (it3.goes hA BZ.out.size); clear hA hb
  go_wp2_with fail
  with_reducible refine HA.out.mono ?_
  rintro e w6 ⟨rfl, F3, hA, hb⟩
  have BZ := Lib.hid (BZ.out.trans hb)
  have HX := Lib.hid (HX.out.trans (BZ.out.mono hY.out))
  have B := Lib.hid (B.out.trans (BZ.out.mono hZ.out))
  clear hA hb HA BZ
  obtain ⟨c0, c1, c2, c3, c4⟩ := box5 HX.out
  go_wp2_with fail
  with_reducible refine (K3.out _).mono ?_
  rintro e w7 ⟨rfl, hb⟩
  have B := Lib.hid (B.out.trans (hb.mono B.out.size)); clear hb
  go_wp2_with fail
  with_reducible refine (K4.out _ B.out).mono ?_
  rintro e w8 ⟨rfl, hb⟩
  have B := Lib.hid (B.out.trans (hb.mono B.out.size)); clear hb
  go_wp2
  go_ret
  exact ⟨rfl, B.out⟩
end Go.Proofs.YthgabbkpjffdnaaDoor
set_option linter.unusedSimpArgs false
set_option linter.unusedVariables false
namespace Go.Proofs.YthgabbkpjffdnaaDoor
open Mm (Mem Blk)
open Ac (A)
/-- All words, block by block. -/
def flat : List Blk → List Int
  | [] => []
  | b :: r => b.2 ++ flat r
theorem flat_append : ∀ (l m : List Blk), flat (l ++ m) = flat l ++ flat m
  | [], m => rfl
  | b :: r, m => by simp [flat, flat_append r m]
theorem flat_len : ∀ (l : List Blk), (flat l).length = Mm.used l
  | [] => rfl
  | b :: r => by simp [flat, Mm.used, flat_len r]
theorem put_none : ∀ {l : List Blk} {n i : Nat} {v : Int}, (∀ b ∈ l, b.1 ≠ n) → Mm.put l n i v = l
  | [], _, _, _, _ => rfl
  | b :: r, n, i, v, h => by
    unfold Mm.put
    rw [if_neg (h b (by simp)), put_none fun c hc => h c (by simp [hc])]
/-- A word that is put is one place of all. -/
theorem flat_put : ∀ {l : List Blk} {lo hi n i : Nat} {v : Int}, Mm.Up lo hi l → ∃ j, flat (Mm.put l n i v) = (flat l).set j v
  | [], _, _, _, _, _, _ => ⟨0, rfl⟩
  | b :: r, lo, hi, n, i, v, h => by
    unfold Mm.put
    by_cases hb : b.1 = n
    · rw [if_pos hb, put_none fun c hc e => by have := (h.2.2.mem c hc).1; omega]
      by_cases hi' : i < b.2.length
      · exact ⟨i, by simp only [flat]; rw [List.set_append_left _ _ hi']⟩
      · refine ⟨(b.2 ++ flat r).length, ?_⟩
        simp only [flat]
        rw [List.set_eq_of_length_le (by omega), List.set_eq_of_length_le (Nat.le_refl _)]
    · rw [if_neg hb]
      obtain ⟨j, hj⟩ := flat_put (n := n) (i := i) (v := v) h.2.2
      refine ⟨b.2.length + j, ?_⟩
      simp only [flat]
      rw [hj, List.set_append_right _ _ (by omega), show b.2.length + j - b.2.length = j by omega]
theorem put_nos : ∀ (l : List Blk) (n i : Nat) (v : Int), (Mm.put l n i v).length = l.length
  | [], _, _, _ => rfl
  | b :: r, n, i, v => by simp [Mm.put, put_nos r n i v]
theorem put_lens : ∀ {l : List Blk} {n i : Nat} {v : Int} {m : Nat}, (∀ b ∈ l, b.2.length ≤ m) → ∀ b ∈ Mm.put l n i v, b.2.length ≤ m
  | [], _, _, _, _, _, b, hb => by simp [Mm.put] at hb
  | c :: r, n, i, v, m, h, b, hb => by
    unfold Mm.put at hb
    rcases List.mem_cons.1 hb with rfl | hb
    · have := h c (by simp)
      split <;> simp <;> omega
    · exact put_lens (fun d hd => h d (by simp [hd])) b hb
theorem del_none : ∀ {l : List Blk} {n : Nat}, (∀ b ∈ l, b.1 ≠ n) → Mm.del l n = l
  | [], _, _ => rfl
  | b :: r, n, h => by
    unfold Mm.del
    rw [if_neg (h b (by simp)), del_none fun c hc => h c (by simp [hc])]
theorem del_one : ∀ {l : List Blk} {lo hi n : Nat} {ws : List Int}, Mm.Up lo hi l → Mm.get l n = some ws → (Mm.del l n).length + 1 = l.length
  | b :: r, lo, hi, n, ws, h, hg => by
    unfold Mm.get at hg
    unfold Mm.del
    by_cases hb : b.1 = n
    · rw [if_pos hb, del_none fun c hc e => by have := (h.2.2.mem c hc).1; omega]
      simp
    · rw [if_neg hb] at hg ⊢
      have := del_one h.2.2 hg
      simp; omega
/-- In how many of the first k places two lists differ. -/
def cnt (xs ys : List Int) : Nat → Nat
  | 0 => 0
  | k + 1 => cnt xs ys k + (if xs.getD k 0 = ys.getD k 0 then 0 else 1)
theorem cnt_self (xs : List Int) : ∀ k, cnt xs xs k = 0
  | 0 => rfl
  | k + 1 => by simp [cnt, cnt_self xs k]
theorem cnt_le (xs ys : List Int) : ∀ k, cnt xs ys k ≤ k
  | 0 => Nat.le_refl _
  | k + 1 => by have := cnt_le xs ys k; unfold cnt; split <;> omega
theorem cnt_set (xs : List Int) (j : Nat) (v : Int) : ∀ k, cnt (xs.set j v) xs k ≤ if j < k then 1 else 0
  | 0 => by simp [cnt]
  | k + 1 => by
    have ih := cnt_set xs j v k
    unfold cnt
    by_cases hj : j = k
    · subst hj
      rw [if_neg (Nat.lt_irrefl _)] at ih
      rw [if_pos (Nat.lt_succ_self _)]
      split <;> omega
    · have e : (xs.set j v).getD k 0 = xs.getD k 0 := by
        simp [List.getD_eq_getElem?_getD, List.getElem?_set_ne hj]
      rw [if_pos e]
      by_cases hjk : j < k
      · rw [if_pos hjk] at ih; rw [if_pos (by omega)]; omega
      · rw [if_neg hjk] at ih; omega
theorem cnt_one (xs : List Int) (j : Nat) (v : Int) (k : Nat) : cnt (xs.set j v) xs k ≤ 1 := by
  have := cnt_set xs j v k
  split at this <;> omega
end Go.Proofs.YthgabbkpjffdnaaDoor
set_option linter.unusedSimpArgs false
set_option linter.unusedVariables false
namespace Go.Proofs.YthgabbkpjffdnaaDoor
open Go.RowKit Go.Maps
open Mm (Mem Blk)
/-- Words as cells. -/
def ws (ys : List Int) : List Value := ys.map (Value.int .u64)
/-- A value that is a row of words, in blocks from B on. -/
def Wl (B : Nat) (w : World) (v : Value) (ys : List Int) : Prop := ∃ a c, v = .slice a ys.length c ∧ ∀ k (hk : k < ys.length), ∃ b, a = some ⟨b, 0, none⟩ ∧ B ≤ b ∧ b < w.heap.size ∧ w.cell? ⟨b, k, none⟩ = some (.int .u64 ys[k])
theorem Wl.of_row {w : World} {B : Nat} {v : Value} {ys : List Int} (h : w.ownsRow B 23 1 v ys.length (ws ys)) : Wl B w v ys := by
  have hlt := fun k hk => h.lt k hk
  rcases h.2 with ⟨rfl, h0⟩ | ⟨g, cap, cur, rfl, _, hg, _, _, _, ht⟩
  · exact ⟨none, 0, by rw [h0], fun k hk => by omega⟩
  · refine ⟨_, _, rfl, fun k hk => ⟨g, rfl, (hlt g rfl).1, (hlt g rfl).2, ?_⟩⟩
    have e1 : (ws ys)[k]? = some (.int .u64 ys[k]) := by simp [ws, hk]
    rw [← ht, List.getElem?_take, if_pos (by omega)] at e1
    simpa [World.cell?, hg] using e1
theorem us_ws (ss : List Nat) : us ss = ws (ss.map (fun n : Nat => (n : Int))) := by simp [us, ws, ku, Function.comp_def]
theorem Wl.below {B : Nat} {w w' : World} {v : Value} {ys : List Int} (h : Wl B w v ys) (hb : Below w.heap.size w w') : Wl B w' v ys :=
  let ⟨a, c, e, hc⟩ := h
  ⟨a, c, e, fun k hk => let ⟨b, ea, hB, hlt, hcell⟩ := hc k hk; ⟨b, ea, hB, Nat.lt_of_lt_of_le hlt hb.size, (hb.cell (p := ⟨b, k, none⟩) hlt).trans hcell⟩⟩
theorem Wl.tn {B : Nat} {F F' : Nat → Prop} {w w' : World} {v : Value} {ys : List Int} (h : Wl B w v ys) (ht : Tn F F' w w') (hF : ∀ k, F k → k < B) : Wl B w' v ys :=
  let ⟨a, c, e, hc⟩ := h
  ⟨a, c, e, fun k hk => let ⟨b, ea, hB, hlt, hcell⟩ := hc k hk; ⟨b, ea, hB, Nat.lt_of_lt_of_le hlt ht.size, (cell_keep (ht.block b hlt (fun hk => by have := hF b hk; omega)) k).trans hcell⟩⟩
theorem Wl.mono {B C : Nat} {w : World} {v : Value} {ys : List Int} (h : Wl B w v ys) (hC : C ≤ B) : Wl C w v ys :=
  let ⟨a, c, e, hc⟩ := h
  ⟨a, c, e, fun k hk => let ⟨b, ea, hB, hlt, hcell⟩ := hc k hk; ⟨b, ea, by omega, hlt, hcell⟩⟩
set_option maxRecDepth 100000 in
set_option maxHeartbeats 2000000 in
/-- Two rows of the same words. -/
theorem wl_same (ys : List Int) (B1 B2 : Nat) (v1 v2 : Value) (w : World) (hl : ys.length ≤ 1000000) (h1 : Wl B1 w v1 ys) (h2 : Wl B2 w v2 ys) :
    Calls Tryd.prog 17 #[v1, v2] w (Gives (.bool true) w) := by
  obtain ⟨a1, c1, rfl, H1⟩ := h1
  obtain ⟨a2, c2, rfl, H2⟩ := h2
  obtain ⟨N, hN⟩ : ∃ N, N = ys.length := ⟨_, rfl⟩
  have hne : ((N : Int) != (N : Int)) = false := by simp
  have HC : Hid (∀ (wr : World), Below w.heap.size w wr → ∀ k, k < N → ∃ b1 b2 y, a1 = some ⟨b1, 0, none⟩ ∧ a2 = some ⟨b2, 0, none⟩ ∧ wr.drew.cell? ⟨b1, k, none⟩ = some (.int .u64 y) ∧ wr.drew.cell? ⟨b2, k, none⟩ = some (.int .u64 y)) := Lib.hid (by
    intro wr hB k hk
    rw [hN] at hk
    obtain ⟨b1, e1, -, l1, g1⟩ := H1 k hk
    obtain ⟨b2, e2, -, l2, g2⟩ := H2 k hk
    exact ⟨b1, b2, ys[k], e1, e2, (hB.drew.cell (p := ⟨b1, k, none⟩) l1).trans g1, (hB.drew.cell (p := ⟨b2, k, none⟩) l2).trans g2⟩)
  rw [← hN] at hl ⊢
  clear H1 H2 hN
  go_enter Tryd.func17, Tryd.ntmps17
  go_wp2
  go_loopw [5] (fun i wr => ∃ k : Nat, k ≤ N ∧ i = .int .i64 k ∧ Below w.heap.size w wr) (fun i _ => N - (intOf i).toNat)
  case atStart => exact ⟨0, by omega, rfl, Below.refl _ _⟩
  case round =>
    obtain ⟨k, hk, rfl, hB⟩ := hrel
    by_cases hlt : k < N
    · obtain ⟨b1, b2, y, rfl, rfl, g1, g2⟩ := HC.out wr hB k hlt
      have e1 : (y != y) = false := by simp
      have HB := Lib.hid hB; clear hB
      go_wp2
      go_region
      all_goals go_wp2
      all_goals go_roundw
      all_goals first | exact ⟨k + 1, by omega, by go_num, HB.out.drew⟩ | (simp [intOf]; omega)
    · obtain rfl : k = N := by omega
      go_wp2
      go_ret
      exact ⟨rfl, hB⟩
/-- A new row of words. -/
def Flat (ys : List Int) (w : World) (e : Ending) (w' : World) : Prop := ∃ v, e = .returned v ∧ Wl w.heap.size w' v ys ∧ Below w.heap.size w w'
/-- The row of the numbers, kept beside a row that grows. -/
def LK (a : Option Addr) (ts : List Nat) (u : Value) (w : World) : Prop := ∀ k (hk : k < ts.length), ∃ b, a = some ⟨b, 0, none⟩ ∧ b < w.heap.size ∧ u.ownBlock ≠ some b ∧ w.cell? ⟨b, k, none⟩ = some (.int .u64 ((ts[k] : Nat) : Int))
theorem LK.grow {a : Option Addr} {ts : List Nat} {u u' : Value} {w w' : World} {o : Obj} (h : LK a ts u w) (hg : (w.alloc o).grownBy w' u.ownBlock) (hat : u'.ownBlock = u.ownBlock ∨ u'.ownBlock = some (w.alloc o).heap.size) : LK a ts u' w' := fun k hk => by
  obtain ⟨b, ea, hlt, hne, hc⟩ := h k hk
  have hz : (w.alloc o).heap.size = w.heap.size + 1 := by simp
  refine ⟨b, ea, by have := hg.size; omega, ?_, ?_⟩
  · rcases hat with e | e
    · rw [e]; exact hne
    · rw [e, hz]; intro e'; injection e' with e'; omega
  · rw [cell_keep (hg.block b (by omega) (fun e => hne e.symm)) k]
    have : (w.alloc o).cell? ⟨b, k, none⟩ = w.cell? ⟨b, k, none⟩ := ((Below.refl w.heap.size w).alloc (Nat.le_refl _) o).cell (p := ⟨b, k, none⟩) hlt
    rw [this]; exact hc
end Go.Proofs.YthgabbkpjffdnaaDoor
set_option linter.unusedSimpArgs false
set_option linter.unusedVariables false
namespace Go.Proofs.YthgabbkpjffdnaaDoor
open Go.RowKit
open Ac (A)
instance : Inhabited A := ⟨⟨0, 0, 0, 0, 0⟩⟩
theorem fields_act : ∃ f0 f1 f2 f3 f4 : Field, Tryd.prog.underlying 26 = some (.struct #[f0, f1, f2, f3, f4]) ∧ (f0.offset = 0 ∧ f1.offset = 1 ∧ f2.offset = 2 ∧ f3.offset = 3 ∧ f4.offset = 4) ∧ f0.type = 3 ∧ f1.type = 23 ∧ f2.type = 3 ∧ f3.type = 23 ∧ f4.type = 23 :=
  ⟨_, _, _, _, _, Tryd.underlying26, ⟨rfl, rfl, rfl, rfl, rfl⟩, rfl, rfl, rfl, rfl, rfl⟩
theorem cells_int : Tryd.prog.cellsOf 3 = 1 := by kernel_rfl
theorem cells_u64 : Tryd.prog.cellsOf 23 = 1 := by kernel_rfl
theorem cells_act : Tryd.prog.cellsOf 26 = 5 := by kernel_rfl
theorem list5 : ∀ (cs : List Value), cs.length = 5 → ∃ v0 v1 v2 v3 v4, cs = [v0, v1, v2, v3, v4]
  | [v0, v1, v2, v3, v4], _ => ⟨v0, v1, v2, v3, v4, rfl⟩
theorem array5 {cs : Array Value} (h : cs.size = 5) : ∃ c0 c1 c2 c3 c4, cs = #[c0, c1, c2, c3, c4] := by
  obtain ⟨l⟩ := cs
  match l, h with
  | [c0, c1, c2, c3, c4], _ => exact ⟨c0, c1, c2, c3, c4, rfl⟩
/-- An act at a place of a slice. -/
def ActAt (a : Option Addr) (w : World) (j : Nat) (x : A) : Prop := ∃ b off, a = some ⟨b, off, none⟩ ∧ w.cell? ⟨b, off + j * 5, none⟩ = some (.int .i64 x.k) ∧ w.cell? ⟨b, off + j * 5 + 1, none⟩ = some (.int .u64 (x.b : Int)) ∧ w.cell? ⟨b, off + j * 5 + 2, none⟩ = some (.int .i64 x.c) ∧ w.cell? ⟨b, off + j * 5 + 3, none⟩ = some (.int .u64 (x.o : Int)) ∧ w.cell? ⟨b, off + j * 5 + 4, none⟩ = some (.int .u64 (x.n : Int))
/-- Acts that came in. -/
def Acts (w : World) (a : Option Addr) (l : List A) : Prop := l = [] ∨ ∃ b off, a = some ⟨b, off, none⟩ ∧ b < w.heap.size ∧ ∀ j, j < l.length → ActAt a w j (l.getD j default) ∧ Fits (l.getD j default)
section
variable {H : Type} {enc : TypeId × Value → H} {W : World} {base : Nat} {spare : Nat → Bool} {held : Bool}
theorem addr_plain {w : World} {a : Addr} {v : Value} (h : w.cell? (a.add 0) = some v) : ∃ b off, a = ⟨b, off, none⟩ := by
  obtain ⟨b, off, spot⟩ := a
  have hspot : spot = none := by simpa [Addr.add] using World.cell?_spot h
  subst hspot
  exact ⟨b, off, rfl⟩
theorem trod_struct5 {t : TypeId} {f0 f1 f2 f3 f4 : Field} {fuel : Nat} {cs : List Value} {x : DataW H × List MemPlace} {P : Program} {w : World} (ht : P.underlying t = some (.struct #[f0, f1, f2, f3, f4])) (h : DataW.trod enc P w base spare held fuel t cs = some x) :
    ∃ y0 y1 y2 y3 y4 n, DataW.trod enc P w base spare held n f0.type ((cs.drop f0.offset).take (P.cellsOf f0.type)) = some y0 ∧ DataW.trod enc P w base spare held n f1.type ((cs.drop f1.offset).take (P.cellsOf f1.type)) = some y1 ∧ DataW.trod enc P w base spare held n f2.type ((cs.drop f2.offset).take (P.cellsOf f2.type)) = some y2 ∧ DataW.trod enc P w base spare held n f3.type ((cs.drop f3.offset).take (P.cellsOf f3.type)) = some y3 ∧ DataW.trod enc P w base spare held n f4.type ((cs.drop f4.offset).take (P.cellsOf f4.type)) = some y4 := by
  obtain ⟨xs, n, _, rfl, hl, hlen, hf⟩ := DataW.trod_struct ht h
  match xs, hlen with
  | [y0, y1, y2, y3, y4], _ => exact ⟨y0, y1, y2, y3, y4, n, by simpa using hf 0 f0 rfl, by simpa using hf 1 f1 rfl, by simpa using hf 2 f2 rfl, by simpa using hf 3 f3 rfl, by simpa using hf 4 f4 rfl⟩
/-- Five cells that read as an act are one. -/
theorem cells_open {fuel : Nat} {v0 v1 v2 v3 v4 : Value} {x : DataW H × List MemPlace} (h : DataW.trod enc Tryd.prog W base spare held fuel 26 [v0, v1, v2, v3, v4] = some x) :
    ∃ q : A, (v0 = .int .i64 q.k ∧ v1 = .int .u64 (q.b : Int) ∧ v2 = .int .i64 q.c ∧ v3 = .int .u64 (q.o : Int) ∧ v4 = .int .u64 (q.n : Int)) ∧ Fits q := by
  obtain ⟨f0, f1, f2, f3, f4, hs, ⟨o0, o1, o2, o3, o4⟩, t0, t1, t2, t3, t4⟩ := fields_act
  obtain ⟨y0, y1, y2, y3, y4, k, g0, g1, g2, g3, g4⟩ := trod_struct5 hs h
  rw [o0, t0, cells_int] at g0
  rw [o1, t1, cells_u64] at g1
  rw [o2, t2, cells_int] at g2
  rw [o3, t3, cells_u64] at g3
  rw [o4, t4, cells_u64] at g4
  obtain ⟨z0, e0, -⟩ := DataW.trod_int Tryd.underlying3 g0
  obtain ⟨z1, e1, -, w1⟩ := DataW.trod_int Tryd.underlying23 g1
  obtain ⟨z2, e2, -, w2⟩ := DataW.trod_int Tryd.underlying3 g2
  obtain ⟨z3, e3, -, w3⟩ := DataW.trod_int Tryd.underlying23 g3
  obtain ⟨z4, e4, -, w4⟩ := DataW.trod_int Tryd.underlying23 g4
  simp at e0 e1 e2 e3 e4
  have b1 := bounds_u64 w1
  have b2 := bounds_i64 w2
  have b3 := bounds_u64 w3
  have b4 := bounds_u64 w4
  obtain ⟨n1, rfl⟩ := Int.eq_ofNat_of_zero_le b1.1
  obtain ⟨n3, rfl⟩ := Int.eq_ofNat_of_zero_le b3.1
  obtain ⟨n4, rfl⟩ := Int.eq_ofNat_of_zero_le b4.1
  exact ⟨⟨z0, n1, z2, n3, n4⟩, ⟨e0, e1, e2, e3, e4⟩, ⟨by simp only; omega, by simp only; omega, by simp only; omega, by simp only; omega, by simp only; omega⟩⟩
theorem open_agg5 {P : Program} {r : Reach} {b0 : Nat} {t : TypeId} {fs : Array Field} {v : Value} {d : DataW H} {p : List MemPlace} (hs : P.underlying t = some (.struct fs)) (hC : P.cellsOf t = 5)
    (hv : Value.okWide P W r b0 t v) (h : DataW.Trod enc P W base spare held t v d p) : ∃ v0 v1 v2 v3 v4 fuel x, v = .agg #[v0, v1, v2, v3, v4] ∧ DataW.trod enc P W base spare held fuel t [v0, v1, v2, v3, v4] = some x := by
  obtain ⟨cs, rfl, hsz⟩ := Go.WideShapes.okWide_struct hs hv
  obtain ⟨c0, c1, c2, c3, c4, rfl⟩ := array5 (hsz.trans hC)
  obtain ⟨fuel, hf⟩ := h
  exact ⟨c0, c1, c2, c3, c4, fuel, _, rfl, by simpa [Value.cells] using hf⟩
set_option maxRecDepth 100000 in
/-- An act by value. -/
theorem open_act {r : Reach} {b0 : Nat} {v : Value} {d : DataW H} {p : List MemPlace} (hv : Value.okWide Tryd.prog W r b0 26 v) (h : DataW.Trod enc Tryd.prog W base spare held 26 v d p) : ∃ x : A, v = av x ∧ Fits x := by
  obtain ⟨f0, f1, f2, f3, f4, hs, -⟩ := fields_act
  obtain ⟨v0, v1, v2, v3, v4, fuel, x, rfl, hf⟩ := open_agg5 hs cells_act hv h
  obtain ⟨q, ⟨rfl, rfl, rfl, rfl, rfl⟩, hq⟩ := cells_open hf
  exact ⟨q, rfl, hq⟩
theorem acts_open {a : Option Addr} {len cap fuel : Nat} {x : DataW H × List MemPlace} (hf : DataW.trod enc Tryd.prog W base spare held fuel 22 [.slice a len cap] = some x) :
    len ≤ maxLen ∧ ∃ ss : List A, ss.length = len ∧ Acts W a ss := by
  rcases Deep.open_slice Tryd.underlying22 hf with ⟨hcs, _⟩ | ⟨a, len', cap', m, n, D, Pl, hcs, hb, hl, hm, hmm, -, hall⟩
  · simp at hcs
    obtain ⟨rfl, rfl, rfl⟩ := hcs
    exact ⟨by unfold maxLen; omega, [], rfl, .inl rfl⟩
  · simp at hcs
    obtain ⟨rfl, rfl, rfl⟩ := hcs
    have hlm : len ≤ m := by rw [hmm]; split <;> omega
    have each : ∀ i, i < len → ∃ q : A, (W.cell? (a.add (i * 5)) = some (.int .i64 q.k) ∧ W.cell? (a.add (i * 5 + 1)) = some (.int .u64 (q.b : Int)) ∧ W.cell? (a.add (i * 5 + 2)) = some (.int .i64 q.c) ∧ W.cell? (a.add (i * 5 + 3)) = some (.int .u64 (q.o : Int)) ∧ W.cell? (a.add (i * 5 + 4)) = some (.int .u64 (q.n : Int))) ∧ Fits q := by
      intro i hi
      obtain ⟨cs', h1, h2⟩ := hall i (by omega)
      rw [cells_act] at h1
      obtain ⟨_, hlen, hcell⟩ := World.cells?_some h1
      obtain ⟨v0, v1, v2, v3, v4, rfl⟩ := list5 cs' hlen
      obtain ⟨q, ⟨rfl, rfl, rfl, rfl, rfl⟩, hq⟩ := cells_open h2
      have q0 := hcell 0 (by omega)
      have q1 := hcell 1 (by omega)
      have q2 := hcell 2 (by omega)
      have q3 := hcell 3 (by omega)
      have q4 := hcell 4 (by omega)
      rw [Deep.add_add] at q0 q1 q2 q3 q4
      exact ⟨q, ⟨by simpa using q0, by simpa using q1, by simpa using q2, by simpa using q3, by simpa using q4⟩, hq⟩
    obtain ⟨q, hq⟩ := Deep.choose_lt each
    refine ⟨by omega, (List.range len).map q, by simp, ?_⟩
    by_cases h0 : len = 0
    · subst h0; exact .inl rfl
    · obtain ⟨b, off, rfl⟩ := addr_plain (by simpa using (hq 0 (by omega)).1.1)
      refine .inr ⟨b, off, rfl, ?_, fun j hj => ?_⟩
      · exact World.block_lt_of_cell? W _ (by simpa [Addr.add] using (hq 0 (by omega)).1.1)
      · have hj' : j < len := by simpa using hj
        have e : ((List.range len).map q).getD j default = q j := by simp [List.getD_eq_getElem?_getD, hj']
        rw [e]
        obtain ⟨⟨c0, c1, c2, c3, c4⟩, hlt⟩ := hq j hj'
        rw [Addr.add_lit] at c0 c1 c2 c3 c4
        exact ⟨⟨b, off, rfl, c0, by rw [Nat.add_assoc]; exact c1, by rw [Nat.add_assoc]; exact c2, by rw [Nat.add_assoc]; exact c3, by rw [Nat.add_assoc]; exact c4⟩, hlt⟩
end
end Go.Proofs.YthgabbkpjffdnaaDoor
namespace Go.Proofs.YthgabbkpjffdnaaDoor
open Go.ChangeShapes Go.WideShapes Go.ChangeAt Go.RowKit
theorem own : ownKnob Tryd.prog.godebug = none := by kernel_rfl
theorem gPowType : (Tryd.prog.globals[2]?).map (·.type) = some 138 := by kernel_rfl
theorem cellsPow : Tryd.prog.cellsOf 138 = 20 := by kernel_rfl
theorem cellsU : Tryd.prog.cellsOf 23 = 1 := by kernel_rfl
theorem gNmType : (Tryd.prog.globals[0]?).map (·.type) = some 89 := by kernel_rfl
theorem cellsNm : Tryd.prog.cellsOf 89 = 7 := by kernel_rfl
theorem cellsS : Tryd.prog.cellsOf 9 = 1 := by kernel_rfl
/-- The list of the rows' tables. -/
abbrev tables : List (String × DataW Unit) := [("math/bits.deBruijn32tab", Rows.laid_math_bits_deBruijn32tab), ("math/bits.deBruijn64tab", Rows.laid_math_bits_deBruijn64tab), ("internal/strconv.uint64pow10", Rows.laid_internal_strconv_uint64pow10), ("sprocket/act.names", Rows.laid_sprocket_act_names)]
theorem tables_pow : tables.filter (fun x => x.1 == "internal/strconv.uint64pow10") = [("internal/strconv.uint64pow10", Lib.tabData .u64 Lib.pow10Tab)] := by
  rfl
/-- The data of a list of texts. -/
def strData (ss : List (List UInt8)) : DataW Unit := .agg (ss.map fun s => .lit (.string s))
theorem tables_nm : tables.filter (fun x => x.1 == "sprocket/act.names") = [("sprocket/act.names", strData [[110, 111, 110, 101], [108, 111, 97, 100], [115, 116, 111, 114, 101], [99, 97, 115], [97, 100, 100], [97, 108, 108, 111, 99], [102, 114, 101, 101]])] := by
  rfl
/-- WHAT THE ROW's LIST GIVES: the table of powers of ten. -/
theorem pow_of {W : World} (h : laidMetH Tryd.prog tables W) : Dt.Pow W := by
  have h1 := h.filter (fun x => x.1 == "internal/strconv.uint64pow10")
  rw [tables_pow] at h1
  exact Lib.tabIs_of_head (rest := []) Dt.gPow gPowType Tryd.underlying138 Tryd.underlying23 cellsU cellsPow h1
/-- An array of texts that reads as the list holds it, cell for cell. -/
theorem cells_of_strs {enc : TypeId × Value → Unit} {w : World} {base : Nat} {sp : Nat → Bool} {held : Bool} {fuel : Nat} {cs : List Value} {ss : List (List UInt8)} {p : List MemPlace}
    (h : DataW.trod enc Tryd.prog w base sp held fuel 89 cs = some (strData ss, p)) : cs = ss.map fun s => Value.string ⟨s.toArray⟩ := by
  cases fuel with
  | zero => simp [DataW.trod] at h
  | succ fuel =>
    simp only [DataW.trod, Tryd.underlying89, cellsS, cellsNm, Nat.mul_one] at h
    split at h
    · rename_i hl
      obtain ⟨xs, hm, hx⟩ := Option.map_eq_some_iff.1 h
      have hxs : xs.map (·.1) = ss.map fun s => (DataW.lit (.string s) : DataW Unit) := by
        have := congrArg Prod.fst hx
        simpa [strData] using this
      have hxl : xs.length = 7 := by simpa using Lib.mapM_length hm
      have hzl : ss.length = 7 := by
        have := congrArg List.length hxs
        simp at this
        omega
      apply List.ext_getElem?
      intro i
      by_cases hi : i < 7
      · obtain ⟨b, hb, hf⟩ := Lib.mapM_at hm i i (by simp [hi])
        obtain ⟨s, hc, rfl, _⟩ := DataW.trod_string Tryd.underlying9 hf
        have h1 : cs[i]? = some (.string s) := by
          have := congrArg (·[0]?) hc
          simpa [List.getElem?_take, List.getElem?_drop] using this
        have h2 : (xs.map (·.1))[i]? = some (DataW.lit (.string s.data.toList) : DataW Unit) := by simp [hb]
        rw [hxs] at h2
        simp only [List.getElem?_map, Option.map_eq_some_iff, DataW.lit.injEq, Lit.string.injEq] at h2
        obtain ⟨s', hs', e⟩ := h2
        rw [h1, List.getElem?_map, hs', e]
        rfl
      · rw [List.getElem?_eq_none (by omega), List.getElem?_eq_none (by simp; omega)]
    · cases h
/-- WHAT THE ROW's LIST GIVES: the names of the kinds. -/
theorem nm_of {W : World} (h : laidMetH Tryd.prog tables W) : Nm W := by
  have h1 := h.filter (fun x => x.1 == "sprocket/act.names")
  rw [tables_nm] at h1
  obtain ⟨ps, ⟨g', t', cs, fuel, p, q, hg', ht', hvar, hd, _, _⟩, _⟩ := h1
  obtain rfl := Option.some.inj (gNm.symm.trans hg')
  obtain rfl := Option.some.inj (gNmType.symm.trans ht')
  unfold Nm
  rw [hvar, Array.ext' ((cells_of_strs hd).trans (show _ = nms.toList from rfl))]
/-- A table's block, filled. -/
def filled (cs : Array Value) : Obj → Obj
  | .cells _ t frozen => .cells cs t frozen
  | o => o
/-- A world for the witness: the settled one, the four tables holding what their initialisers lay. -/
noncomputable def laidWorld (os : Os) : World :=
  { World.holding Tryd.prog os ⟨#[], #[], []⟩ with heap := ((((World.holding Tryd.prog os ⟨#[], #[], []⟩).heap.modify 2 (filled #[.int .u64 1, .int .u64 10, .int .u64 100, .int .u64 1000, .int .u64 10000, .int .u64 100000, .int .u64 1000000, .int .u64 10000000, .int .u64 100000000, .int .u64 1000000000, .int .u64 10000000000, .int .u64 100000000000, .int .u64 1000000000000, .int .u64 10000000000000, .int .u64 100000000000000, .int .u64 1000000000000000, .int .u64 10000000000000000, .int .u64 100000000000000000, .int .u64 1000000000000000000, .int .u64 10000000000000000000])).modify 3 (filled #[.int .u8 0, .int .u8 1, .int .u8 28, .int .u8 2, .int .u8 29, .int .u8 14, .int .u8 24, .int .u8 3, .int .u8 30, .int .u8 22, .int .u8 20, .int .u8 15, .int .u8 25, .int .u8 17, .int .u8 4, .int .u8 8, .int .u8 31, .int .u8 27, .int .u8 13, .int .u8 23, .int .u8 21, .int .u8 19, .int .u8 16, .int .u8 7, .int .u8 26, .int .u8 12, .int .u8 18, .int .u8 6, .int .u8 11, .int .u8 5, .int .u8 10, .int .u8 9])).modify 4 (filled #[.int .u8 0, .int .u8 1, .int .u8 56, .int .u8 2, .int .u8 57, .int .u8 49, .int .u8 28, .int .u8 3, .int .u8 61, .int .u8 58, .int .u8 42, .int .u8 50, .int .u8 38, .int .u8 29, .int .u8 17, .int .u8 4, .int .u8 62, .int .u8 47, .int .u8 59, .int .u8 36, .int .u8 45, .int .u8 43, .int .u8 51, .int .u8 22, .int .u8 53, .int .u8 39, .int .u8 33, .int .u8 30, .int .u8 24, .int .u8 18, .int .u8 12, .int .u8 5, .int .u8 63, .int .u8 55, .int .u8 48, .int .u8 27, .int .u8 60, .int .u8 41, .int .u8 37, .int .u8 16, .int .u8 46, .int .u8 35, .int .u8 44, .int .u8 21, .int .u8 52, .int .u8 32, .int .u8 23, .int .u8 11, .int .u8 54, .int .u8 26, .int .u8 40, .int .u8 15, .int .u8 34, .int .u8 20, .int .u8 31, .int .u8 10, .int .u8 25, .int .u8 14, .int .u8 19, .int .u8 9, .int .u8 13, .int .u8 8, .int .u8 7, .int .u8 6])).modify 0 (filled #[.string ⟨#[110, 111, 110, 101]⟩, .string ⟨#[108, 111, 97, 100]⟩, .string ⟨#[115, 116, 111, 114, 101]⟩, .string ⟨#[99, 97, 115]⟩, .string ⟨#[97, 100, 100]⟩, .string ⟨#[97, 108, 108, 111, 99]⟩, .string ⟨#[102, 114, 101, 101]⟩]) }
end Go.Proofs.YthgabbkpjffdnaaDoor
