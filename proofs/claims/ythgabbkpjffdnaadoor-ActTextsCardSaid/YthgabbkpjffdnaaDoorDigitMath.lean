/-
  Plain facts on decimal texts: what a list of bytes is as a number, when it is the shortest text of one, and that the numeral of a number comes back. No program in it. By an AI agent.
-/
import Derived.Lib.ItoaMem
import GoSem.Op.String
namespace Go.Proofs.YthgabbkpjffdnaaDoor.Dt
namespace Dg

def isDig (c : UInt8) : Bool := decide (48 ≤ c.toNat) && decide (c.toNat ≤ 57)
def val (l : List UInt8) : Nat := l.foldl (fun a c => 10 * a + (c.toNat - 48)) 0
/-- The text of a number from 0 on: digits, no nought ahead. -/
def wfB (l : List UInt8) : Bool := l.all isDig && (l.length == 1 || (l.length != 0 && l.getD 0 0 != 48))
def wordV (l : List UInt8) (longest : Nat) : Nat := if wfB l && decide (l.length ≤ longest) && decide (val l < 18446744073709551616) then val l else 0
def wordE (l : List UInt8) (longest : Nat) : Int := if wfB l && decide (l.length ≤ longest) then (if val l < 18446744073709551616 then 0 else 5) else 3

theorem isDig_iff (c : UInt8) : isDig c = true ↔ 48 ≤ c.toNat ∧ c.toNat ≤ 57 := by simp [isDig]

theorem val_nil : val [] = 0 := rfl
theorem val_snoc (l : List UInt8) (c : UInt8) : val (l ++ [c]) = 10 * val l + (c.toNat - 48) := by
  unfold val; rw [List.foldl_append]; rfl

theorem val_from (l : List UInt8) : ∀ a : Nat, l.foldl (fun a c => 10 * a + (c.toNat - 48)) a = a * 10 ^ l.length + val l := by
  induction l with
  | nil => intro a; simp [val]
  | cons c l ih =>
    intro a
    have h1 := ih (10 * a + (c.toNat - 48))
    have h2 := ih (10 * 0 + (c.toNat - 48))
    unfold val
    rw [List.foldl_cons, List.foldl_cons, h1, h2, List.length_cons, Nat.pow_succ, Nat.add_mul, Nat.add_mul]
    have e : 10 * a * 10 ^ l.length = a * (10 ^ l.length * 10) := by rw [Nat.mul_comm 10 a, Nat.mul_assoc, Nat.mul_comm 10]
    omega
theorem val_cons (c : UInt8) (l : List UInt8) : val (c :: l) = (c.toNat - 48) * 10 ^ l.length + val l := by
  have h := val_from l (10 * 0 + (c.toNat - 48))
  unfold val at h ⊢
  rw [List.foldl_cons, h]
  simp

theorem val_lt (l : List UInt8) (h : l.all isDig = true) : val l < 10 ^ l.length := by
  induction l with
  | nil => simp [val]
  | cons c l ih =>
    rw [List.all_cons, Bool.and_eq_true, isDig_iff] at h
    have h1 := ih h.2
    rw [val_cons, List.length_cons, Nat.pow_succ]
    have h2 : (c.toNat - 48) * 10 ^ l.length ≤ 9 * 10 ^ l.length := Nat.mul_le_mul_right _ (by omega)
    omega

/-- The order of texts of digits of one length is that of their numbers. -/
theorem less_val : ∀ (a b : List UInt8), a.length = b.length → a.all isDig = true → b.all isDig = true → Op.bytesLess a b = decide (val a < val b)
  | [], [], _, _, _ => by simp [Op.bytesLess, val]
  | x :: a, y :: b, hl, ha, hb => by
    rw [List.all_cons, Bool.and_eq_true, isDig_iff] at ha hb
    have hl' : a.length = b.length := by simpa using hl
    have ih := less_val a b hl' ha.2 hb.2
    have va := val_lt a ha.2
    have vb := val_lt b hb.2
    rw [Op.bytesLess, ih, val_cons, val_cons, hl']
    rw [hl'] at va
    generalize hp : 10 ^ b.length = p at *
    obtain ⟨⟨x1, x2⟩, _⟩ := ha
    obtain ⟨⟨y1, y2⟩, _⟩ := hb
    by_cases e : x = y
    · subst e
      simp
    · have hne : x.toNat ≠ y.toNat := fun h => e (UInt8.toNat_inj.mp h)
      by_cases lt : x.toNat < y.toNat
      · have h2 : (x.toNat - 48 + 1) * p ≤ (y.toNat - 48) * p := Nat.mul_le_mul_right _ (by omega)
        rw [Nat.add_mul] at h2
        have h3 : (decide (x < y)) = true := by simpa [UInt8.lt_iff_toNat_lt] using lt
        rw [h3]
        simp
        omega
      · have h2 : (y.toNat - 48 + 1) * p ≤ (x.toNat - 48) * p := Nat.mul_le_mul_right _ (by omega)
        rw [Nat.add_mul] at h2
        have h3 : (decide (x < y)) = false := by simpa [UInt8.lt_iff_toNat_lt] using lt
        have h4 : (x == y) = false := by simpa using e
        rw [h3, h4]
        simp
        omega

theorem dig_ofNat (k : Nat) (h : k < 10) : (UInt8.ofNat (48 + k)).toNat = 48 + k := by
  simp [UInt8.toNat_ofNat']
  omega
theorem dec_all (u : Nat) : (Lib.decDigits u).all isDig = true := by
  induction u using Nat.strongRecOn with
  | _ u ih =>
    rw [Lib.decDigits]
    by_cases h : u < 10
    · rw [dif_pos h]; simp only [List.all_cons, List.all_nil, Bool.and_true, isDig_iff]; rw [dig_ofNat _ h]; omega
    · rw [dif_neg h, List.all_append, ih _ (by omega)]
      simp only [List.all_cons, List.all_nil, Bool.and_true, Bool.true_and, isDig_iff]; rw [dig_ofNat _ (by omega)]; omega
theorem dec_val (u : Nat) : val (Lib.decDigits u) = u := by
  induction u using Nat.strongRecOn with
  | _ u ih =>
    rw [Lib.decDigits]
    by_cases h : u < 10
    · rw [dif_pos h]
      have := val_snoc [] (UInt8.ofNat (48 + u))
      rw [List.nil_append, val_nil, dig_ofNat _ h] at this
      omega
    · rw [dif_neg h, val_snoc, ih _ (by omega), dig_ofNat _ (by omega)]; omega
theorem dec_head (u : Nat) (h : 1 ≤ u) : (Lib.decDigits u).getD 0 0 ≠ 48 := by
  induction u using Nat.strongRecOn with
  | _ u ih =>
    rw [Lib.decDigits]
    by_cases h' : u < 10
    · rw [dif_pos h']
      intro e
      have e2 := congrArg UInt8.toNat e
      simp only [List.getD_cons_zero] at e2
      rw [dig_ofNat _ h'] at e2
      have : (48 : UInt8).toNat = 48 := rfl
      omega
    · rw [dif_neg h']
      have h1 := ih (u / 10) (by omega) (by omega)
      have hl : 1 ≤ (Lib.decDigits (u / 10)).length := by rw [Lib.decDigits_length]; exact Lib.nDigits_pos _
      match hd : Lib.decDigits (u / 10), hl, h1 with
      | c :: l, _, h1 => simpa using h1
theorem dec_pos (u : Nat) : 1 ≤ (Lib.decDigits u).length := by rw [Lib.decDigits_length]; exact Lib.nDigits_pos _
theorem dec_wf (u : Nat) : wfB (Lib.decDigits u) = true := by
  unfold wfB
  rw [dec_all]
  have hp := dec_pos u
  by_cases h : u = 0
  · subst h; simp [Lib.decDigits_one (show (0 : Nat) < 10 by omega)]
  · have hh := dec_head u (by omega)
    simp only [Bool.true_and, Bool.or_eq_true, beq_iff_eq, Bool.and_eq_true, bne_iff_ne]
    exact Or.inr ⟨by omega, hh⟩
theorem dec_inj {u v : Nat} (h : Lib.decDigits u = Lib.decDigits v) : u = v := by
  rw [← dec_val u, ← dec_val v, h]
theorem dec_len_le (u k : Nat) (hk : 1 ≤ k) (h : u < 10 ^ k) : (Lib.decDigits u).length ≤ k := by
  rw [Lib.decDigits_length]
  rcases Nat.lt_or_ge k (Lib.nDigits u) with hlt | hge
  · exfalso
    -- nDigits u ≥ k+1 means u ≥ 10^k
    have key : ∀ (m v : Nat), Lib.nDigits v = m + 2 → 10 ^ (m + 1) ≤ v := by
      intro m
      induction m with
      | zero => intro v hv; by_cases h10 : v < 10
                · rw [Lib.nDigits_small h10] at hv; omega
                · omega
      | succ m ih => intro v hv; by_cases h10 : v < 10
                     · rw [Lib.nDigits_small h10] at hv; omega
                     · rw [Lib.nDigits_big h10] at hv
                       have h3 := ih (v / 10) (by omega)
                       rw [Nat.pow_succ]
                       omega
    obtain ⟨m, hm⟩ : ∃ m, Lib.nDigits u = m + 2 := ⟨Lib.nDigits u - 2, by omega⟩
    have h1 := key m u hm
    have h2 : 10 ^ k ≤ 10 ^ (m + 1) := Nat.pow_le_pow_right (by omega) (by omega)
    omega
  · exact hge
theorem dec_len_gt (u k : Nat) (h : 10 ^ k ≤ u) : k < (Lib.decDigits u).length := by
  have h1 := val_lt _ (dec_all u)
  rw [dec_val] at h1
  rcases Nat.lt_or_ge k (Lib.decDigits u).length with hlt | hge
  · exact hlt
  · have h2 : 10 ^ (Lib.decDigits u).length ≤ 10 ^ k := Nat.pow_le_pow_right (by omega) hge
    omega
theorem word_bad {l : List UInt8} {n : Nat} (h : wfB l = false) : wordV l n = 0 ∧ wordE l n = 3 := by simp [wordV, wordE, h]
theorem word_long {l : List UInt8} {n : Nat} (h : n < l.length) : wordV l n = 0 ∧ wordE l n = 3 := by
  have h' : ¬ l.length ≤ n := by omega
  simp [wordV, wordE, h']
theorem word_ok {l : List UInt8} {n : Nat} (h : wfB l = true) (hn : l.length ≤ n) (hv : val l < 18446744073709551616) : wordV l n = val l ∧ wordE l n = 0 := by simp [wordV, wordE, h, hn, hv]
theorem word_over {l : List UInt8} {n : Nat} (h : wfB l = true) (hn : l.length ≤ n) (hv : ¬ val l < 18446744073709551616) : wordV l n = 0 ∧ wordE l n = 5 := by simp [wordV, wordE, h, hn, hv]
theorem wf_none {l : List UInt8} (h : l.length = 0) : wfB l = false := by simp [wfB, h]
theorem wf_nought {l : List UInt8} (h : 1 < l.length) (h0 : l.getD 0 0 = 48) : wfB l = false := by
  have h1 : (l.length == 1) = false := by simp; omega
  simp only [wfB, h1, h0]
  simp
theorem wf_at {l : List UInt8} {k : Nat} (hk : k < l.length) (h : isDig l[k] = false) : wfB l = false := by
  have : l.all isDig = false := by
    rw [List.all_eq_false]
    exact ⟨l[k], List.getElem_mem hk, by simp [h]⟩
  simp [wfB, this]
theorem wf_mk {l : List UInt8} (h : l.all isDig = true) (hs : l.length = 1 ∨ (l.length ≠ 0 ∧ l.getD 0 0 ≠ 48)) : wfB l = true := by
  simp only [wfB, h, Bool.true_and, Bool.or_eq_true, beq_iff_eq, Bool.and_eq_true, bne_iff_ne]
  exact hs
theorem take_succ {l : List UInt8} {k : Nat} (hk : k < l.length) : l.take (k + 1) = l.take k ++ [l[k]] := List.take_succ_eq_append_getElem hk
theorem all_succ {l : List UInt8} {k : Nat} (hk : k < l.length) (h : (l.take k).all isDig = true) (hd : isDig l[k] = true) : (l.take (k + 1)).all isDig = true := by
  rw [take_succ hk, List.all_append, h]; simp [hd]
theorem val_succ {l : List UInt8} {k : Nat} (hk : k < l.length) : val (l.take (k + 1)) = 10 * val (l.take k) + (l[k].toNat - 48) := by
  rw [take_succ hk, val_snoc]
/-- Only a twentieth digit goes beyond a word. -/
theorem over_all {l : List UInt8} {k : Nat} (hk : k < l.length) (hl : l.length ≤ 20) (h : (l.take (k + 1)).all isDig = true) (hv : 18446744073709551616 ≤ val (l.take (k + 1))) : l.take (k + 1) = l := by
  have h1 := val_lt _ h
  rw [List.length_take, Nat.min_eq_left (by omega)] at h1
  rcases Nat.lt_or_ge (k + 1) 20 with hlt | hge
  · exfalso
    have h2 : 10 ^ (k + 1) ≤ 10 ^ 19 := Nat.pow_le_pow_right (by omega) (by omega)
    have h3 : (10 : Nat) ^ 19 = 10000000000000000000 := by decide
    omega
  · exact List.take_of_length_le (by omega)

/-- '-' ahead. -/
def signed (l : List UInt8) : Bool := l.getD 0 0 == 45
def body (l : List UInt8) : List UInt8 := if signed l then l.drop 1 else l
def num (l : List UInt8) : Int := if signed l then -(val (body l) : Int) else (val (body l) : Int)
def parseOk (l : List UInt8) : Bool := wfB (body l) && decide ((body l).length ≤ 18) && !(signed l && val (body l) == 0)
def parseV (l : List UInt8) (least most : Int) : Int := if parseOk l && decide (least ≤ num l) && decide (num l ≤ most) then num l else 0
def parseE (l : List UInt8) (least most : Int) : Int := if parseOk l then (if least ≤ num l ∧ num l ≤ most then 0 else 5) else 3

theorem body_lt (l : List UInt8) (h : wfB (body l) = true) (h18 : (body l).length ≤ 18) : val (body l) < 1000000000000000000 := by
  have ha : (body l).all isDig = true := by
    simp only [wfB, Bool.and_eq_true] at h
    exact h.1
  have h1 := val_lt _ ha
  have h2 : 10 ^ (body l).length ≤ 10 ^ 18 := Nat.pow_le_pow_right (by omega) h18
  have h3 : (10 : Nat) ^ 18 = 1000000000000000000 := by decide
  omega

theorem parse_bad {l : List UInt8} {a b : Int} (h : parseOk l = false) : parseV l a b = 0 ∧ parseE l a b = 3 := by simp [parseV, parseE, h]
theorem parse_out {l : List UInt8} {a b : Int} (h : parseOk l = true) (h2 : num l < a ∨ b < num l) : parseV l a b = 0 ∧ parseE l a b = 5 := by
  have h3 : ¬ (a ≤ num l ∧ num l ≤ b) := by omega
  refine ⟨?_, ?_⟩
  · unfold parseV
    rw [if_neg]
    simp only [h, Bool.true_and, Bool.and_eq_true, decide_eq_true_iff]
    exact h3
  · unfold parseE
    rw [if_pos h, if_neg h3]
theorem parse_in {l : List UInt8} {a b : Int} (h : parseOk l = true) (h2 : a ≤ num l) (h3 : num l ≤ b) : parseV l a b = num l ∧ parseE l a b = 0 := by simp [parseV, parseE, h, h2, h3]
theorem ok_no {l : List UInt8} (h : wfB (body l) = false) : parseOk l = false := by simp [parseOk, h]
theorem ok_long {l : List UInt8} (h : 18 < (body l).length) : parseOk l = false := by
  have : ¬ (body l).length ≤ 18 := by omega
  simp [parseOk, this]
theorem ok_zero {l : List UInt8} (h : signed l = true) (h0 : val (body l) = 0) : parseOk l = false := by simp [parseOk, h, h0]
theorem ok_plain {l : List UInt8} (h : signed l = false) (hw : wfB (body l) = true) (hl : (body l).length ≤ 18) : parseOk l = true := by simp [parseOk, h, hw, hl]
theorem ok_signed {l : List UInt8} (hw : wfB (body l) = true) (hl : (body l).length ≤ 18) (h0 : val (body l) ≠ 0) : parseOk l = true := by simp [parseOk, hw, hl, h0]
theorem num_plain {l : List UInt8} (h : signed l = false) : num l = (val (body l) : Int) := by simp [num, h]
theorem num_signed {l : List UInt8} (h : signed l = true) : num l = -(val (body l) : Int) := by simp [num, h]
theorem body_plain {l : List UInt8} (h : signed l = false) : body l = l := by simp [body, h]
theorem body_signed {l : List UInt8} (h : signed l = true) : body l = l.drop 1 := by simp [body, h]
theorem wf_allOf {l : List UInt8} (h : wfB l = true) : l.all isDig = true := by
  unfold wfB at h
  rw [Bool.and_eq_true] at h
  exact h.1
theorem val_take_le (l : List UInt8) (k : Nat) : val (l.take k) ≤ val l := by
  have h2 := val_from (l.drop k) (val (l.take k))
  have h3 : val l = (l.drop k).foldl (fun a c => 10 * a + (c.toNat - 48)) (val (l.take k)) := by
    conv => lhs; rw [← List.take_append_drop k l]
    unfold val
    rw [List.foldl_append]
  rw [h3, h2]
  have h4 : 1 ≤ 10 ^ (l.drop k).length := Nat.one_le_pow _ _ (by decide)
  have h5 := Nat.mul_le_mul_left (val (l.take k)) h4
  omega
theorem word18 {l : List UInt8} (h : wfB l = true) (hl : l.length ≤ 18) : val l < 1000000000000000000 := by
  have h1 := val_lt _ (wf_allOf h)
  have h2 : 10 ^ l.length ≤ 10 ^ 18 := Nat.pow_le_pow_right (by omega) hl
  have h3 : (10 : Nat) ^ 18 = 1000000000000000000 := by decide
  omega
end Dg
end Go.Proofs.YthgabbkpjffdnaaDoor.Dt
