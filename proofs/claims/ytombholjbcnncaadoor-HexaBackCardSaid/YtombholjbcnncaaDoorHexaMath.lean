/-
  Plain mathematics of bytes as texts of hexadecimal digits: no program in it. By an AI agent.
-/
import Derived.KernelRfl
namespace Go.Proofs.YtombholjbcnncaaDoor.Hx
/-- A number's digit; a sign's number (16: it is no digit). -/
def dg (n : Nat) : Nat := if n < 10 then 48 + n else 87 + n
def nm (c : Nat) : Nat := if 48 ≤ c ∧ c ≤ 57 then c - 48 else if 97 ≤ c ∧ c ≤ 102 then c - 87 else 16
theorem nm_dg {n : Nat} (h : n < 16) : nm (dg n) = n := by
  unfold nm dg
  repeat' split
  all_goals omega
theorem dg_nm {c : Nat} (h : nm c < 16) : dg (nm c) = c := by
  unfold nm at h ⊢
  unfold dg
  repeat' split
  all_goals (repeat' split at h)
  all_goals omega
theorem dg_lt {n : Nat} (h : n < 16) : dg n < 256 := by
  unfold dg; split <;> omega
theorem nm_le (c : Nat) : nm c ≤ 16 := by
  unfold nm
  repeat' split
  all_goals omega
theorem nm_high {c : Nat} (h : 128 ≤ c) : nm c = 16 := by
  unfold nm
  rw [if_neg (by omega), if_neg (by omega)]
/-- A digit's sign is found at its number alone. -/
theorem dg_iff {n c : Nat} (h : n < 16) : dg n = c ↔ nm c = n := by
  constructor
  · rintro rfl; exact nm_dg h
  · rintro rfl; exact dg_nm h
/-- The byte of two signs; 256: they are no two digits. -/
def pr (a b : Nat) : Nat := if nm a < 16 ∧ nm b < 16 then nm a * 16 + nm b else 256
theorem pr_good {a b : Nat} (h1 : nm a < 16) (h2 : nm b < 16) : pr a b = nm a * 16 + nm b := if_pos ⟨h1, h2⟩
theorem pr_bad {a b : Nat} (h : ¬ (nm a < 16 ∧ nm b < 16)) : pr a b = 256 := if_neg h
theorem pr_le (a b : Nat) : pr a b ≤ 256 := by
  unfold pr
  have := nm_le a; have := nm_le b
  split <;> omega
theorem pr_iff {a b k : Nat} (hk : k < 256) : (dg (k / 16) = a ∧ dg (k % 16) = b) ↔ pr a b = k := by
  rw [dg_iff (by omega), dg_iff (by omega)]
  unfold pr
  have := nm_le a; have := nm_le b
  split <;> omega
/-- A byte's two signs. -/
def up (b : UInt8) : UInt8 := UInt8.ofNat (dg (b.toNat / 16))
def lo (b : UInt8) : UInt8 := UInt8.ofNat (dg (b.toNat % 16))
theorem up_val (b : UInt8) : (up b).toNat = dg (b.toNat / 16) := by
  have hb := b.toNat_lt
  have := dg_lt (n := b.toNat / 16) (by omega)
  unfold up
  rw [UInt8.toNat_ofNat']
  omega
theorem lo_val (b : UInt8) : (lo b).toNat = dg (b.toNat % 16) := by
  have := dg_lt (n := b.toNat % 16) (by omega)
  unfold lo
  rw [UInt8.toNat_ofNat']
  omega
/-- The signs of the first k bytes. -/
def textTo (l : List UInt8) : Nat → List UInt8
  | 0 => []
  | k + 1 => textTo l k ++ [up (l.getD k 0), lo (l.getD k 0)]
theorem textTo_succ (l : List UInt8) (k : Nat) : textTo l (k + 1) = textTo l k ++ [up (l.getD k 0), lo (l.getD k 0)] := rfl
theorem textTo_len (l : List UInt8) : ∀ k, (textTo l k).length = 2 * k
  | 0 => rfl
  | k + 1 => by rw [textTo_succ, List.length_append, textTo_len l k]; simp; omega
theorem textTo_up (l : List UInt8) : ∀ (k i : Nat), i < k → (textTo l k)[2 * i]? = some (up (l.getD i 0))
  | k + 1, i, h => by
    rw [textTo_succ]
    by_cases e : i = k
    · subst e
      rw [List.getElem?_append_right (by rw [textTo_len]; omega), textTo_len]
      simp
    · rw [List.getElem?_append_left (by rw [textTo_len]; omega)]
      exact textTo_up l k i (by omega)
theorem textTo_lo (l : List UInt8) : ∀ (k i : Nat), i < k → (textTo l k)[2 * i + 1]? = some (lo (l.getD i 0))
  | k + 1, i, h => by
    rw [textTo_succ]
    by_cases e : i = k
    · subst e
      rw [List.getElem?_append_right (by rw [textTo_len]; omega), textTo_len]
      rw [show 2 * i + 1 - 2 * i = 1 by omega]
      simp
    · rw [List.getElem?_append_left (by rw [textTo_len]; omega)]
      exact textTo_lo l k i (by omega)
/-- The bytes of the first k pairs of signs. -/
def sg (t : List UInt8) (j : Nat) : Nat := (t.getD j 0).toNat
theorem sg_in {t : List UInt8} {j : Nat} (h : j < t.length) : sg t j = t[j].toNat := by
  unfold sg
  rw [List.getD_eq_getElem?_getD, List.getElem?_eq_getElem h]; rfl
def bytesTo (t : List UInt8) : Nat → List UInt8
  | 0 => []
  | k + 1 => bytesTo t k ++ [UInt8.ofNat (nm (sg t (2 * k)) * 16 + nm (sg t (2 * k + 1)))]
theorem bytesTo_succ (t : List UInt8) (k : Nat) : bytesTo t (k + 1) = bytesTo t k ++ [UInt8.ofNat (nm (sg t (2 * k)) * 16 + nm (sg t (2 * k + 1)))] := rfl
theorem bytesTo_len (t : List UInt8) : ∀ k, (bytesTo t k).length = k
  | 0 => rfl
  | k + 1 => by rw [bytesTo_succ, List.length_append, bytesTo_len t k]; rfl
/-- A text of digits, two for each byte. -/
def Good (t : List UInt8) : Prop := 0 < t.length ∧ t.length % 2 = 0 ∧ ∀ j, j < t.length → nm (sg t j) < 16
/-- What Print answers. -/
def print (l : List UInt8) : List UInt8 := if l = [] then [45] else textTo l l.length
theorem print_nil : print [] = [45] := rfl
theorem print_cons {l : List UInt8} (h : l ≠ []) : print l = textTo l l.length := if_neg h
/-- What Parse answers, where it answers no error. -/
def parse (t : List UInt8) : List UInt8 := if t = [45] then [] else bytesTo t (t.length / 2)
def Text (t : List UInt8) : Prop := t = [45] ∨ Good t
theorem not_good_dash : ¬ Good [45] := by
  rintro ⟨-, h, -⟩; simp at h
theorem parse_good {t : List UInt8} (h : Good t) : parse t = bytesTo t (t.length / 2) := by
  unfold parse
  rw [if_neg]
  rintro rfl
  exact not_good_dash h
theorem sg_up (l : List UInt8) (k i : Nat) (h : i < k) : sg (textTo l k) (2 * i) = dg ((l.getD i 0).toNat / 16) := by
  unfold sg
  rw [List.getD_eq_getElem?_getD, textTo_up l k i h, Option.getD_some, up_val]
theorem sg_lo (l : List UInt8) (k i : Nat) (h : i < k) : sg (textTo l k) (2 * i + 1) = dg ((l.getD i 0).toNat % 16) := by
  unfold sg
  rw [List.getD_eq_getElem?_getD, textTo_lo l k i h, Option.getD_some, lo_val]
theorem good_textTo (l : List UInt8) (k : Nat) (hk : 0 < k) : Good (textTo l k) := by
  refine ⟨by rw [textTo_len]; omega, by rw [textTo_len]; omega, fun j hj => ?_⟩
  rw [textTo_len] at hj
  obtain ⟨i, rfl | rfl⟩ : ∃ i, j = 2 * i ∨ j = 2 * i + 1 := ⟨j / 2, by omega⟩
  · have hb := (l.getD i 0).toNat_lt
    rw [sg_up l k i (by omega), nm_dg (by omega)]; omega
  · rw [sg_lo l k i (by omega), nm_dg (by omega)]; omega
theorem take_succ_getD {l : List UInt8} {k : Nat} (h : k < l.length) : l.take (k + 1) = l.take k ++ [l.getD k 0] := by
  rw [List.take_add_one, List.getElem?_eq_getElem h, List.getD_eq_getElem?_getD, List.getElem?_eq_getElem h]; rfl
theorem bytes_text (l : List UInt8) : ∀ k, k ≤ l.length → bytesTo (textTo l l.length) k = l.take k
  | 0, _ => rfl
  | k + 1, h => by
    rw [bytesTo_succ, bytes_text l k (by omega), take_succ_getD (by omega)]
    have hb := (l.getD k 0).toNat_lt
    rw [sg_up l _ k (by omega), sg_lo l _ k (by omega), nm_dg (by omega), nm_dg (by omega)]
    have : (l.getD k 0).toNat / 16 * 16 + (l.getD k 0).toNat % 16 = (l.getD k 0).toNat := by omega
    rw [this, UInt8.ofNat_toNat]
/-- ████ Bytes come back of their text. ████ -/
theorem text_print (l : List UInt8) : Text (print l) ∧ parse (print l) = l := by
  by_cases h : l = []
  · subst h; exact ⟨.inl rfl, rfl⟩
  · rw [print_cons h]
    have h0 : 0 < l.length := List.length_pos_iff.2 h
    have g := good_textTo l l.length h0
    refine ⟨.inr g, ?_⟩
    rw [parse_good g, textTo_len, show 2 * l.length / 2 = l.length by omega, bytes_text l _ (Nat.le_refl _), List.take_length]
theorem bytesTo_get (t : List UInt8) : ∀ (k i : Nat), i < k → (bytesTo t k).getD i 0 = UInt8.ofNat (nm (sg t (2 * i)) * 16 + nm (sg t (2 * i + 1)))
  | k + 1, i, h => by
    rw [bytesTo_succ, List.getD_eq_getElem?_getD]
    by_cases e : i = k
    · subst e
      rw [List.getElem?_append_right (by rw [bytesTo_len]; omega), bytesTo_len]
      simp
    · rw [List.getElem?_append_left (by rw [bytesTo_len]; omega), ← List.getD_eq_getElem?_getD]
      exact bytesTo_get t k i (by omega)
theorem text_bytes {t : List UInt8} (g : Good t) : ∀ k, 2 * k ≤ t.length → textTo (bytesTo t (t.length / 2)) k = t.take (2 * k)
  | 0, _ => rfl
  | k + 1, h => by
    rw [textTo_succ, text_bytes g k (by omega), bytesTo_get t _ k (by omega)]
    have h1 := g.2.2 (2 * k) (by omega)
    have h2 := g.2.2 (2 * k + 1) (by omega)
    have e1 : up (UInt8.ofNat (nm (sg t (2 * k)) * 16 + nm (sg t (2 * k + 1)))) = t.getD (2 * k) 0 := by
      refine UInt8.toNat_inj.1 ?_
      rw [up_val, UInt8.toNat_ofNat', show (nm (sg t (2 * k)) * 16 + nm (sg t (2 * k + 1))) % 2 ^ 8 / 16 = nm (sg t (2 * k)) by omega, dg_nm h1]
      rfl
    have e2 : lo (UInt8.ofNat (nm (sg t (2 * k)) * 16 + nm (sg t (2 * k + 1)))) = t.getD (2 * k + 1) 0 := by
      refine UInt8.toNat_inj.1 ?_
      rw [lo_val, UInt8.toNat_ofNat', show (nm (sg t (2 * k)) * 16 + nm (sg t (2 * k + 1))) % 2 ^ 8 % 16 = nm (sg t (2 * k + 1)) by omega, dg_nm h2]
      rfl
    rw [e1, e2, show 2 * (k + 1) = 2 * k + 1 + 1 by omega, take_succ_getD (by omega), take_succ_getD (by omega)]
    simp
/-- ████ What is read is written as it stood. ████ -/
theorem print_parse {t : List UInt8} (h : Text t) : print (parse t) = t := by
  rcases h with rfl | g
  · rfl
  · rw [parse_good g, print_cons, bytesTo_len, text_bytes g _ (by omega)]
    · have := g.2.1
      rw [show 2 * (t.length / 2) = t.length by omega, List.take_length]
    · intro e
      have := congrArg List.length e
      rw [bytesTo_len] at this
      have h1 := g.1
      have h2 := g.2.1
      simp at this
      omega
end Go.Proofs.YtombholjbcnncaaDoor.Hx
