/-
  Plain mathematics of texts as words: no program in it. By an AI agent.
-/
import Derived.Test.YtmpoaepkfjeecaaLaneMath
namespace Go.Proofs.Ytmpoaepkfjeecaa.Pk
open Go
open Go.Proofs.Ytmpoaepkfjeecaa
/-- The text's byte at a place; 0 behind its end. -/
def bv (bs : List UInt8) (j : Nat) : Int := ((bs.getD j 0).toNat : Int)
theorem bv_bd (bs : List UInt8) (j : Nat) : 0 ≤ bv bs j ∧ bv bs j ≤ 255 := by
  unfold bv
  have := (bs.getD j 0).toNat_lt
  omega
theorem bv_out {bs : List UInt8} {j : Nat} (h : bs.length ≤ j) : bv bs j = 0 := by
  unfold bv
  rw [List.getD_eq_getElem?_getD, List.getElem?_eq_none h]; rfl
theorem bv_in {bs : List UInt8} {j : Nat} (h : j < bs.length) : bv bs j = (bs[j].toNat : Int) := by
  unfold bv
  rw [List.getD_eq_getElem?_getD, List.getElem?_eq_getElem h]; rfl
/-- The word of the k bytes from i on. -/
def wto (bs : List UInt8) (i : Nat) : Nat → Int
  | 0 => 0
  | k + 1 => Ln.wth (wto bs i k) (k : Int) (bv bs (i + k))
theorem wto_bd (bs : List UInt8) (i k : Nat) : 0 ≤ wto bs i k ∧ wto bs i k ≤ 18446744073709551615 := by
  induction k with
  | zero => exact ⟨Int.le_refl _, by show (0 : Int) ≤ _; decide⟩
  | succ k ih => exact Ln.wth_bd _ _ ih.1 ih.2
theorem byt_zero {j : Nat} (h : j < 8) : Ln.byt 0 j = 0 := by
  rw [Ln.byt_in (by omega) (by omega)]; simp
theorem byt_wto {bs : List UInt8} {i : Nat} : ∀ {k : Nat}, k ≤ 8 → ∀ {j : Nat}, j < 8 → Ln.byt (wto bs i k) j = if j < k then bv bs (i + j) else 0
  | 0, _, j, hj => by
    rw [if_neg (by omega)]; exact byt_zero hj
  | k + 1, hk, j, hj => by
    have b := bv_bd bs (i + k)
    show Ln.byt (Ln.wth (wto bs i k) (k : Int) (bv bs (i + k))) j = _
    rw [Ln.byt_wth hj, byt_wto (by omega) hj]
    by_cases e : j = k
    · subst e
      rw [if_pos ⟨rfl, b.1, b.2⟩, if_pos (by omega)]
    · rw [if_neg (by omega)]
      by_cases h : j < k
      · rw [if_pos h, if_pos (by omega)]
      · rw [if_neg h, if_neg (by omega)]
/-- Two words of the same bytes are one. -/
theorem word_ext {x y : Int} (hx0 : 0 ≤ x) (hx1 : x ≤ 18446744073709551615) (hy0 : 0 ≤ y) (hy1 : y ≤ 18446744073709551615) (h : ∀ j : Nat, j < 8 → Ln.byt x j = Ln.byt y j) : x = y := by
  rw [← Ln.wrd_bts hx0 hx1, ← Ln.wrd_bts hy0 hy1]
  congr 1
  unfold Ln.bts
  exact List.map_congr_left fun k hk => h k (by simpa using hk)
/-- Behind the text's end nothing more is put. -/
theorem wto_end {bs : List UInt8} {i k : Nat} (hk : k ≤ 8) (h : bs.length ≤ i + k) : wto bs i k = wto bs i 8 := by
  refine word_ext (wto_bd _ _ _).1 (wto_bd _ _ _).2 (wto_bd _ _ _).1 (wto_bd _ _ _).2 fun j hj => ?_
  rw [byt_wto hk hj, byt_wto (Nat.le_refl _) hj, if_pos hj]
  by_cases c : j < k
  · rw [if_pos c]
  · rw [if_neg c, bv_out (by omega)]
/-- How many words a text of n bytes has. -/
def many (n : Int) : Int := if n ≤ 0 then 0 else (n - 1) / 8 + 1
theorem many_le {n : Int} (h : n ≤ 0) : many n = 0 := if_pos h
theorem many_pos {n : Int} (h : 0 < n) : many n = (n - 1) / 8 + 1 := if_neg (by omega)
theorem many_bd {n : Int} : 0 ≤ many n ∧ 8 * many n ≤ (if n ≤ 0 then 0 else n + 7) ∧ n ≤ 8 * many n := by
  unfold many; split <;> omega
theorem many_next {n : Int} (h : 0 < n) : many n = many (n - 8) + 1 := by
  rw [many_pos h]
  by_cases c : n - 8 ≤ 0
  · rw [many_le c]; omega
  · rw [many_pos (by omega)]; omega
/-- The words of a text. -/
def cnt (n : Nat) : Nat := (n + 7) / 8
theorem cnt_many (n : Nat) : (cnt n : Int) = many n := by
  unfold cnt many; split <;> omega
def wordsTo (bs : List UInt8) (m : Nat) : List Int := (List.range m).map fun k => wto bs (8 * k) 8
def words (bs : List UInt8) : List Int := wordsTo bs (cnt bs.length)
theorem wordsTo_succ (bs : List UInt8) (m : Nat) : wordsTo bs (m + 1) = wordsTo bs m ++ [wto bs (8 * m) 8] := by
  simp [wordsTo, List.range_succ]
theorem wordsTo_len (bs : List UInt8) (m : Nat) : (wordsTo bs m).length = m := by simp [wordsTo]
theorem words_len (bs : List UInt8) : (words bs).length = cnt bs.length := wordsTo_len _ _
/-- The j-th byte of a list of words. -/
def by1 (l : List Int) (j : Nat) : Int := Ln.byt (l.getD (j / 8) 0) ((j % 8 : Nat) : Int)
theorem by1_bd (l : List Int) (j : Nat) : 0 ≤ by1 l j ∧ by1 l j ≤ 255 := Ln.byt_bd' (by omega) (by omega)
def b8 (v : Int) : UInt8 := UInt8.ofNat v.toNat
theorem b8_val {v : Int} (h0 : 0 ≤ v) (h1 : v ≤ 255) : ((b8 v).toNat : Int) = v := by
  unfold b8
  rw [UInt8.toNat_ofNat']
  omega
def rawTo (l : List Int) (m : Nat) : List Int := (List.range m).map (by1 l)
theorem rawTo_succ (l : List Int) (m : Nat) : rawTo l (m + 1) = rawTo l m ++ [by1 l m] := by simp [rawTo, List.range_succ]
theorem rawTo_len (l : List Int) (m : Nat) : (rawTo l m).length = m := by simp [rawTo]
theorem rawTo_get {l : List Int} {m j : Nat} (h : j < (rawTo l m).length) : (rawTo l m)[j] = by1 l j := by simp [rawTo]
/-- The text of the first m bytes. -/
def txt (l : List Int) (m : Nat) : List UInt8 := (rawTo l m).map b8
theorem txt_len (l : List Int) (m : Nat) : (txt l m).length = m := by simp [txt, rawTo_len]
theorem txt_get {l : List Int} {m j : Nat} (h : j < (txt l m).length) : (txt l m)[j] = b8 (by1 l j) := by simp [txt, rawTo]
/-- No byte behind the n-th one is other than 0. -/
def Still (l : List Int) (n : Nat) : Prop := ∀ j, n ≤ j → j < 8 * l.length → by1 l j = 0
/-- These words have a text of n bytes. -/
def Good (l : List Int) (n : Int) : Prop := 0 ≤ n ∧ many n = l.length ∧ Still l n.toNat
/-- The document's own way to ask how many there are. -/
theorem many_way {n : Int} {m : Nat} (h : 0 ≤ n) : many n = m ↔ n ≤ 8 * m ∧ ¬ n ≤ 8 * m - 8 := by
  unfold many; split <;> omega
/-! ### back -/
theorem bv_txt {l : List Int} {m j : Nat} (h : j < m) : bv (txt l m) j = by1 l j := by
  have b := by1_bd l j
  rw [bv_in (by rw [txt_len]; exact h), txt_get, b8_val b.1 b.2]
theorem words_txt {l : List Int} {n : Nat} (hw : ∀ x ∈ l, 0 ≤ x ∧ x ≤ 18446744073709551615) (hg : Good l n) : words (txt l n) = l := by
  obtain ⟨-, hm, hz⟩ := hg
  have hc : cnt n = l.length := by have := cnt_many n; omega
  simp only [Int.toNat_natCast] at hz
  refine List.ext_getElem (by rw [words_len, txt_len, hc]) fun k h1 h2 => ?_
  have e : (words (txt l n))[k] = wto (txt l n) (8 * k) 8 := by simp [words, wordsTo]
  rw [e]
  have hb := hw _ (List.getElem_mem h2)
  refine word_ext (wto_bd _ _ _).1 (wto_bd _ _ _).2 hb.1 hb.2 fun j hj => ?_
  rw [byt_wto (Nat.le_refl _) hj, if_pos hj]
  have e1 : by1 l (8 * k + j) = Ln.byt l[k] j := by
    unfold by1
    have q : (8 * k + j) / 8 = k := by omega
    have r : (8 * k + j) % 8 = j := by omega
    rw [q, r, List.getD_eq_getElem?_getD, List.getElem?_eq_getElem h2]; rfl
  rw [← e1]
  by_cases c : 8 * k + j < n
  · exact bv_txt c
  · rw [bv_out (by rw [txt_len]; omega), hz _ (by omega) (by omega)]
theorem by1_words {bs : List UInt8} {j : Nat} (h : j < 8 * cnt bs.length) : by1 (words bs) j = bv bs j := by
  unfold by1
  have hk : j / 8 < (words bs).length := by rw [words_len]; omega
  rw [List.getD_eq_getElem?_getD, List.getElem?_eq_getElem hk]
  have e : (words bs)[j / 8] = wto bs (8 * (j / 8)) 8 := by simp [words, wordsTo]
  show Ln.byt ((words bs)[j / 8]) _ = _
  rw [e, byt_wto (Nat.le_refl _) (by omega), if_pos (by omega)]
  congr 1
  omega
theorem good_words (bs : List UInt8) : Good (words bs) bs.length := by
  refine ⟨by omega, ?_, fun j h1 h2 => ?_⟩
  · rw [words_len, cnt_many]
  · rw [words_len] at h2
    rw [by1_words h2]
    exact bv_out (by simpa using h1)
theorem txt_words (bs : List UInt8) : txt (words bs) bs.length = bs := by
  refine List.ext_getElem (txt_len _ _) fun j h1 h2 => ?_
  have hc : bs.length ≤ 8 * cnt bs.length := by unfold cnt; omega
  rw [txt_get, by1_words (by omega), bv_in h2]
  unfold b8
  simp
theorem words_wf {bs : List UInt8} : ∀ x ∈ words bs, 0 ≤ x ∧ x ≤ 18446744073709551615 := by
  intro x hx
  simp only [words, wordsTo, List.mem_map] at hx
  obtain ⟨k, -, rfl⟩ := hx
  exact wto_bd _ _ _
end Go.Proofs.Ytmpoaepkfjeecaa.Pk
