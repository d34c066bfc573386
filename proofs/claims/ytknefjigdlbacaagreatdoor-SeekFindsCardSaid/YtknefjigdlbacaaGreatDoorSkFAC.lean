/-
  Several texts in one: Plain mathematics of texts as words: no program in it; Plain mathematics of boxes: no program in it; The acts of who makes a box, as plain data. No program in it; The acts of who reads a box, as plain data. No program in it. By an AI agent.
-/
import Derived.Test.YtknefjigdlbacaaGreatDoorSkFAB
import Derived.Test.YtknefjigdlbacaaGreatDoorSkFAA
namespace Go.Proofs.YtknefjigdlbacaaGreatDoor.Pk
open Go
open Go.Proofs.YtknefjigdlbacaaGreatDoor
/-- The text's byte at a place; 0 behind its end. -/
def bv (bs : List UInt8) (j : Nat) : Int := ((bs.getD j 0).toNat : Int)
theorem bv_bd (bs : List UInt8) (j : Nat) : 0 ≤ bv bs j ∧ bv bs j ≤ 255 := by
  unfold bv
  have := (bs.getD j 0).toNat_lt
  omega
theorem bv_out {bs : List UInt8} {j : Nat} (h : bs.length ≤ j) : bv bs j = 0 := by
  unfold bv
  rw [List.getD_eq_getElem?_getD, List.getElem?_eq_none h]; rfl
theorem bv_in {bs : List UInt8} {j : Nat} (h : j < bs.length) : bv bs j = (bs[j].toNat : Int) := by
  unfold bv
  rw [List.getD_eq_getElem?_getD, List.getElem?_eq_getElem h]; rfl
/-- The word of the k bytes from i on. -/
def wto (bs : List UInt8) (i : Nat) : Nat → Int
  | 0 => 0
  | k + 1 => Ln.wth (wto bs i k) (k : Int) (bv bs (i + k))
theorem wto_bd (bs : List UInt8) (i k : Nat) : 0 ≤ wto bs i k ∧ wto bs i k ≤ 18446744073709551615 := by
  induction k with
  | zero => exact ⟨Int.le_refl _, by show (0 : Int) ≤ _; decide⟩
  | succ k ih => exact Ln.wth_bd _ _ ih.1 ih.2
theorem byt_zero {j : Nat} (h : j < 8) : Ln.byt 0 j = 0 := by
  rw [Ln.byt_in (by omega) (by omega)]; simp
theorem byt_wto {bs : List UInt8} {i : Nat} : ∀ {k : Nat}, k ≤ 8 → ∀ {j : Nat}, j < 8 → Ln.byt (wto bs i k) j = if j < k then bv bs (i + j) else 0
  | 0, _, j, hj => by
    rw [if_neg (by omega)]; exact byt_zero hj
  | k + 1, hk, j, hj => by
    have b := bv_bd bs (i + k)
    show Ln.byt (Ln.wth (wto bs i k) (k : Int) (bv bs (i + k))) j = _
    rw [Ln.byt_wth hj, byt_wto (by omega) hj]
    by_cases e : j = k
    · subst e
      rw [if_pos ⟨rfl, b.1, b.2⟩, if_pos (by omega)]
    · rw [if_neg (by omega)]
      by_cases h : j < k
      · rw [if_pos h, if_pos (by omega)]
      · rw [if_neg h, if_neg (by omega)]
/-- Two words of the same bytes are one. -/
theorem word_ext {x y : Int} (hx0 : 0 ≤ x) (hx1 : x ≤ 18446744073709551615) (hy0 : 0 ≤ y) (hy1 : y ≤ 18446744073709551615) (h : ∀ j : Nat, j < 8 → Ln.byt x j = Ln.byt y j) : x = y := by
  rw [← Ln.wrd_bts hx0 hx1, ← Ln.wrd_bts hy0 hy1]
  congr 1
  unfold Ln.bts
  exact List.map_congr_left fun k hk => h k (by simpa using hk)
/-- Behind the text's end nothing more is put. -/
theorem wto_end {bs : List UInt8} {i k : Nat} (hk : k ≤ 8) (h : bs.length ≤ i + k) : wto bs i k = wto bs i 8 := by
  refine word_ext (wto_bd _ _ _).1 (wto_bd _ _ _).2 (wto_bd _ _ _).1 (wto_bd _ _ _).2 fun j hj => ?_
  rw [byt_wto hk hj, byt_wto (Nat.le_refl _) hj, if_pos hj]
  by_cases c : j < k
  · rw [if_pos c]
  · rw [if_neg c, bv_out (by omega)]
/-- How many words a text of n bytes has. -/
def many (n : Int) : Int := if n ≤ 0 then 0 else (n - 1) / 8 + 1
theorem many_le {n : Int} (h : n ≤ 0) : many n = 0 := if_pos h
theorem many_pos {n : Int} (h : 0 < n) : many n = (n - 1) / 8 + 1 := if_neg (by omega)
theorem many_bd {n : Int} : 0 ≤ many n ∧ 8 * many n ≤ (if n ≤ 0 then 0 else n + 7) ∧ n ≤ 8 * many n := by
  unfold many; split <;> omega
theorem many_next {n : Int} (h : 0 < n) : many n = many (n - 8) + 1 := by
  rw [many_pos h]
  by_cases c : n - 8 ≤ 0
  · rw [many_le c]; omega
  · rw [many_pos (by omega)]; omega
/-- The words of a text. -/
def cnt (n : Nat) : Nat := (n + 7) / 8
theorem cnt_many (n : Nat) : (cnt n : Int) = many n := by
  unfold cnt many; split <;> omega
def wordsTo (bs : List UInt8) (m : Nat) : List Int := (List.range m).map fun k => wto bs (8 * k) 8
def words (bs : List UInt8) : List Int := wordsTo bs (cnt bs.length)
theorem wordsTo_succ (bs : List UInt8) (m : Nat) : wordsTo bs (m + 1) = wordsTo bs m ++ [wto bs (8 * m) 8] := by
  simp [wordsTo, List.range_succ]
theorem wordsTo_len (bs : List UInt8) (m : Nat) : (wordsTo bs m).length = m := by simp [wordsTo]
theorem words_len (bs : List UInt8) : (words bs).length = cnt bs.length := wordsTo_len _ _
/-- The j-th byte of a list of words. -/
def by1 (l : List Int) (j : Nat) : Int := Ln.byt (l.getD (j / 8) 0) ((j % 8 : Nat) : Int)
theorem by1_bd (l : List Int) (j : Nat) : 0 ≤ by1 l j ∧ by1 l j ≤ 255 := Ln.byt_bd' (by omega) (by omega)
def b8 (v : Int) : UInt8 := UInt8.ofNat v.toNat
theorem b8_val {v : Int} (h0 : 0 ≤ v) (h1 : v ≤ 255) : ((b8 v).toNat : Int) = v := by
  unfold b8
  rw [UInt8.toNat_ofNat']
  omega
def rawTo (l : List Int) (m : Nat) : List Int := (List.range m).map (by1 l)
theorem rawTo_succ (l : List Int) (m : Nat) : rawTo l (m + 1) = rawTo l m ++ [by1 l m] := by simp [rawTo, List.range_succ]
theorem rawTo_len (l : List Int) (m : Nat) : (rawTo l m).length = m := by simp [rawTo]
theorem rawTo_get {l : List Int} {m j : Nat} (h : j < (rawTo l m).length) : (rawTo l m)[j] = by1 l j := by simp [rawTo]
/-- The text of the first m bytes. -/
def txt (l : List Int) (m : Nat) : List UInt8 := (rawTo l m).map b8
theorem txt_len (l : List Int) (m : Nat) : (txt l m).length = m := by simp [txt, rawTo_len]
theorem txt_get {l : List Int} {m j : Nat} (h : j < (txt l m).length) : (txt l m)[j] = b8 (by1 l j) := by simp [txt, rawTo]
/-- No byte behind the n-th one is other than 0. -/
def Still (l : List Int) (n : Nat) : Prop := ∀ j, n ≤ j → j < 8 * l.length → by1 l j = 0
/-- These words have a text of n bytes. -/
def Good (l : List Int) (n : Int) : Prop := 0 ≤ n ∧ many n = l.length ∧ Still l n.toNat
/-- The document's own way to ask how many there are. -/
theorem many_way {n : Int} {m : Nat} (h : 0 ≤ n) : many n = m ↔ n ≤ 8 * m ∧ ¬ n ≤ 8 * m - 8 := by
  unfold many; split <;> omega
/-! ### back -/
theorem bv_txt {l : List Int} {m j : Nat} (h : j < m) : bv (txt l m) j = by1 l j := by
  have b := by1_bd l j
  rw [bv_in (by rw [txt_len]; exact h), txt_get, b8_val b.1 b.2]
theorem words_txt {l : List Int} {n : Nat} (hw : ∀ x ∈ l, 0 ≤ x ∧ x ≤ 18446744073709551615) (hg : Good l n) : words (txt l n) = l := by
  obtain ⟨-, hm, hz⟩ := hg
  have hc : cnt n = l.length := by have := cnt_many n; omega
  simp only [Int.toNat_natCast] at hz
  refine List.ext_getElem (by rw [words_len, txt_len, hc]) fun k h1 h2 => ?_
  have e : (words (txt l n))[k] = wto (txt l n) (8 * k) 8 := by simp [words, wordsTo]
  rw [e]
  have hb := hw _ (List.getElem_mem h2)
  refine word_ext (wto_bd _ _ _).1 (wto_bd _ _ _).2 hb.1 hb.2 fun j hj => ?_
  rw [byt_wto (Nat.le_refl _) hj, if_pos hj]
  have e1 : by1 l (8 * k + j) = Ln.byt l[k] j := by
    unfold by1
    have q : (8 * k + j) / 8 = k := by omega
    have r : (8 * k + j) % 8 = j := by omega
    rw [q, r, List.getD_eq_getElem?_getD, List.getElem?_eq_getElem h2]; rfl
  rw [← e1]
  by_cases c : 8 * k + j < n
  · exact bv_txt c
  · rw [bv_out (by rw [txt_len]; omega), hz _ (by omega) (by omega)]
theorem by1_words {bs : List UInt8} {j : Nat} (h : j < 8 * cnt bs.length) : by1 (words bs) j = bv bs j := by
  unfold by1
  have hk : j / 8 < (words bs).length := by rw [words_len]; omega
  rw [List.getD_eq_getElem?_getD, List.getElem?_eq_getElem hk]
  have e : (words bs)[j / 8] = wto bs (8 * (j / 8)) 8 := by simp [words, wordsTo]
  show Ln.byt ((words bs)[j / 8]) _ = _
  rw [e, byt_wto (Nat.le_refl _) (by omega), if_pos (by omega)]
  congr 1
  omega
theorem good_words (bs : List UInt8) : Good (words bs) bs.length := by
  refine ⟨by omega, ?_, fun j h1 h2 => ?_⟩
  · rw [words_len, cnt_many]
  · rw [words_len] at h2
    rw [by1_words h2]
    exact bv_out (by simpa using h1)
theorem txt_words (bs : List UInt8) : txt (words bs) bs.length = bs := by
  refine List.ext_getElem (txt_len _ _) fun j h1 h2 => ?_
  have hc : bs.length ≤ 8 * cnt bs.length := by unfold cnt; omega
  rw [txt_get, by1_words (by omega), bv_in h2]
  unfold b8
  simp
theorem words_wf {bs : List UInt8} : ∀ x ∈ words bs, 0 ≤ x ∧ x ≤ 18446744073709551615 := by
  intro x hx
  simp only [words, wordsTo, List.mem_map] at hx
  obtain ⟨k, -, rfl⟩ := hx
  exact wto_bd _ _ _
end Go.Proofs.YtknefjigdlbacaaGreatDoor.Pk
namespace Go.Proofs.YtknefjigdlbacaaGreatDoor.Bx
open Go
open Go.Proofs.YtknefjigdlbacaaGreatDoor
/-- How long the key is by a head. -/
def lk (h : Int) : Int := min (h % 256) 16
/-- How long the value is by a head. -/
def lv (h : Int) : Int := min (h / 256 % 256) 24
/-- How many cells a box has by its head. -/
def size (h : Int) : Int := 1 + Pk.many (lk h) + Pk.many (lv h)
/-- The head of a key of k bytes and a value of v bytes. -/
def hd (k v : Nat) : Int := min (k : Int) 255 + 256 * min (v : Int) 255
/-- A box. -/
def box (k v : List UInt8) : List Int := hd k.length v.length :: (Pk.words k ++ Pk.words v)
/-- The key of words. -/
def key (l : List Int) : List UInt8 := Pk.txt (l.drop 1) (lk (l.getD 0 0)).toNat
/-- The value of words. -/
def val (l : List Int) : List UInt8 := Pk.txt (l.drop (1 + Pk.cnt (lk (l.getD 0 0)).toNat)) (lv (l.getD 0 0)).toNat
theorem lk_bd (h : Int) : 0 ≤ lk h ∧ lk h ≤ 16 := by unfold lk; omega
theorem lv_bd (h : Int) : 0 ≤ lv h ∧ lv h ≤ 24 := by unfold lv; omega
theorem hd_bd (k v : Nat) : 0 ≤ hd k v ∧ hd k v ≤ 65535 := by unfold hd; omega
theorem lk_hd {k v : Nat} (hk : k ≤ 16) : lk (hd k v) = k := by unfold lk hd; omega
theorem lv_hd {k v : Nat} (hk : k ≤ 16) (hv : v ≤ 24) : lv (hd k v) = v := by unfold lv hd; omega
theorem lk_nat (h : Int) : ∃ k : Nat, lk h = k ∧ k ≤ 16 := ⟨(lk h).toNat, by have := lk_bd h; omega, by have := lk_bd h; omega⟩
theorem lv_nat (h : Int) : ∃ k : Nat, lv h = k ∧ k ≤ 24 := ⟨(lv h).toNat, by have := lv_bd h; omega, by have := lv_bd h; omega⟩
theorem cnt_le {n m : Nat} (h : n ≤ 8 * m) : Pk.cnt n ≤ m := by unfold Pk.cnt; omega
theorem size_bd (h : Int) : 1 ≤ size h ∧ size h ≤ 6 := by
  obtain ⟨k, e1, h1⟩ := lk_nat h
  obtain ⟨v, e2, h2⟩ := lv_nat h
  unfold size
  rw [e1, e2, ← Pk.cnt_many, ← Pk.cnt_many]
  have a := cnt_le (n := k) (m := 2) h1
  have b := cnt_le (n := v) (m := 3) h2
  omega
/-- Texts of words that are alike as far as is read are one. -/
theorem txt_congr {l m : List Int} {n : Nat} (h : ∀ j, 8 * j < n → l.getD j 0 = m.getD j 0) : Pk.txt l n = Pk.txt m n := by
  refine List.ext_getElem (by rw [Pk.txt_len, Pk.txt_len]) fun j h1 h2 => ?_
  rw [Pk.txt_len] at h1
  rw [Pk.txt_get, Pk.txt_get]
  unfold Pk.by1
  rw [h (j / 8) (by omega)]
theorem txt_take {l : List Int} {n m : Nat} (h : n ≤ m) : (Pk.txt l m).take n = Pk.txt l n := by
  refine List.ext_getElem (by rw [List.length_take, Pk.txt_len, Pk.txt_len]; omega) fun j h1 h2 => ?_
  rw [List.getElem_take, Pk.txt_get, Pk.txt_get]
theorem getD_drop (l : List Int) (i j : Nat) : (l.drop i).getD j 0 = l.getD (i + j) 0 := by
  rw [List.getD_eq_getElem?_getD, List.getD_eq_getElem?_getD, List.getElem?_drop]
/-- The six cells into which words are copied. -/
def pad (l : List Int) : List Int := (List.range 6).map fun j => l.getD j 0
theorem pad_len (l : List Int) : (pad l).length = 6 := by simp [pad]
theorem pad_get {l : List Int} {j : Nat} (h : j < 6) : (pad l).getD j 0 = l.getD j 0 := by
  unfold pad
  rw [List.getD_eq_getElem?_getD, List.getElem?_map, List.getElem?_range h]; rfl
theorem pad_txt {l : List Int} {i n : Nat} (h : 8 * i + n ≤ 48) : Pk.txt ((pad l).drop i) n = Pk.txt (l.drop i) n := by
  refine txt_congr fun j hj => ?_
  rw [getD_drop, getD_drop, pad_get (by omega)]
theorem pad_cells (l : List Int) : pad l = [l.getD 0 0, l.getD 1 0, l.getD 2 0, l.getD 3 0, l.getD 4 0, l.getD 5 0] := by
  simp [pad, List.range, List.range.loop]
/-- What is copied, and zeroes behind it. -/
theorem pad_splice (l : List Int) : l.take 6 ++ [0, 0, 0, 0, 0, 0].drop (l.take 6).length = pad l := by
  rw [pad_cells]
  match l with
  | [] => rfl
  | [_] => rfl
  | [_, _] => rfl
  | [_, _, _] => rfl
  | [_, _, _, _] => rfl
  | [_, _, _, _, _] => rfl
  | _ :: _ :: _ :: _ :: _ :: _ :: _ => simp
/-! ### back -/
theorem box_len (k v : List UInt8) : (box k v).length = 1 + Pk.cnt k.length + Pk.cnt v.length := by
  simp [box, Pk.words_len]; omega
theorem box_size {k v : List UInt8} (hk : k.length ≤ 16) (hv : v.length ≤ 24) : size (hd k.length v.length) = ((box k v).length : Int) := by
  rw [box_len]
  unfold size
  rw [lk_hd hk, lv_hd hk hv, ← Pk.cnt_many, ← Pk.cnt_many]
  omega
theorem txt_front {a b : List Int} {n : Nat} (h : n ≤ 8 * a.length) : Pk.txt (a ++ b) n = Pk.txt a n := by
  refine txt_congr fun j hj => ?_
  rw [List.getD_eq_getElem?_getD, List.getD_eq_getElem?_getD, List.getElem?_append_left (by omega)]
theorem key_box {k v : List UInt8} (hk : k.length ≤ 16) : key (box k v) = k := by
  unfold key box
  rw [show (hd k.length v.length :: (Pk.words k ++ Pk.words v)).getD 0 0 = hd k.length v.length from rfl, lk_hd hk, List.drop_succ_cons, List.drop_zero, Int.toNat_natCast, txt_front (by rw [Pk.words_len]; unfold Pk.cnt; omega), Pk.txt_words]
theorem val_box {k v : List UInt8} (hk : k.length ≤ 16) (hv : v.length ≤ 24) : val (box k v) = v := by
  unfold val box
  rw [show (hd k.length v.length :: (Pk.words k ++ Pk.words v)).getD 0 0 = hd k.length v.length from rfl, lk_hd hk, lv_hd hk hv, Int.toNat_natCast, Int.toNat_natCast, Nat.add_comm, List.drop_succ_cons, List.drop_left' (Pk.words_len k), Pk.txt_words]
theorem box_inj {k v k' v' : List UInt8} (hk : k.length ≤ 16) (hv : v.length ≤ 24) (hk' : k'.length ≤ 16) (hv' : v'.length ≤ 24) : box k v = box k' v' ↔ k = k' ∧ v = v' := by
  constructor
  · intro h
    exact ⟨by rw [← key_box (v := v) hk, h, key_box hk'], by rw [← val_box hk hv, h, val_box hk' hv']⟩
  · rintro ⟨rfl, rfl⟩; rfl
theorem box_wf {k v : List UInt8} : ∀ x ∈ box k v, 0 ≤ x ∧ x ≤ 18446744073709551615 := by
  intro x hx
  simp only [box, List.mem_cons, List.mem_append] at hx
  rcases hx with rfl | h | h
  · have := hd_bd k.length v.length; omega
  · exact Pk.words_wf x h
  · exact Pk.words_wf x h
theorem good_all {l : List Int} : Pk.Good l (8 * (l.length : Int)) := by
  refine ⟨by omega, ?_, fun j h1 h2 => by omega⟩
  unfold Pk.many; split <;> omega
end Go.Proofs.YtknefjigdlbacaaGreatDoor.Bx
namespace Go.Proofs.YtknefjigdlbacaaGreatDoor.Kr
open Go.Proofs.YtknefjigdlbacaaGreatDoor
abbrev A := Go.Proofs.YtknefjigdlbacaaGreatDoor.Ac.A
/-- A box, in natural numbers. -/
def bx (k v : List UInt8) : List Nat := (Bx.box k v).map Int.toNat
/-- Numbers as whole numbers. -/
def up (l : List Nat) : List Int := l.map fun n : Nat => (n : Int)
theorem up_len (l : List Nat) : (up l).length = l.length := by simp [up]
theorem up_get {l : List Nat} {j : Nat} (h : j < l.length) : (up l)[j]'(by rw [up_len]; exact h) = ((l.getD j 0 : Nat) : Int) := by
  unfold up
  rw [List.getElem_map, List.getD_eq_getElem?_getD, List.getElem?_eq_getElem h]; rfl
theorem bx_up (k v : List UInt8) : up (bx k v) = Bx.box k v := by
  unfold up bx
  rw [List.map_map]
  refine (List.map_congr_left fun x hx => ?_).trans (List.map_id _)
  have := Bx.box_wf x hx
  simp only [Function.comp_apply, id]
  omega
theorem bx_len (k v : List UInt8) : (bx k v).length = (Bx.box k v).length := by simp [bx]
theorem bx_bd {k v : List UInt8} (hk : k.length ≤ 16) (hv : v.length ≤ 24) : 1 ≤ (bx k v).length ∧ (bx k v).length ≤ 6 := by
  have a := Bx.size_bd (Bx.hd k.length v.length)
  rw [Bx.box_size hk hv] at a
  rw [bx_len]; omega
/-- Does an act come, behind j answers, the first of them b? -/
def more (n j b : Nat) : Bool := j == 0 || (b != 0 && decide (j ≤ n))
/-- The act that comes next. -/
def act (l : List Nat) (j b : Nat) : A := if more l.length j b = true then (if j = 0 then ⟨5, 0, l.length, 0, 0⟩ else ⟨2, b, ((j - 1 : Nat) : Int), 0, l.getD (j - 1) 0⟩) else ⟨0, 0, 0, 0, 0⟩
theorem act_zero (l : List Nat) (b : Nat) : act l 0 b = ⟨5, 0, l.length, 0, 0⟩ := by simp [act, more]
theorem act_store {l : List Nat} {j b : Nat} (hb : b ≠ 0) (hj : j < l.length) : act l (j + 1) b = ⟨2, b, (j : Int), 0, l.getD j 0⟩ := by
  unfold act more
  simp [hb]; try omega
theorem act_none {l : List Nat} {j b : Nat} (h : more l.length j b = false) : act l j b = ⟨0, 0, 0, 0, 0⟩ := by simp [act, h]
/-- The first answer is the block. -/
def blk (j b v : Nat) : Nat := if j = 0 then v else b
theorem blk_zero (b v : Nat) : blk 0 b v = v := rfl
theorem blk_succ (j b v : Nat) : blk (j + 1) b v = b := rfl
theorem more_zero (n b : Nat) : more n 0 b = true := rfl
theorem more_succ {n j b : Nat} : more n (j + 1) b = true ↔ b ≠ 0 ∧ j < n := by simp [more]; intro _; omega
theorem more_no {n j b : Nat} (h : more n j b = false) : more n (j + 1) b = false := by
  cases h2 : more n (j + 1) b with
  | false => rfl
  | true =>
    obtain ⟨h3, h4⟩ := more_succ.1 h2
    cases j with
    | zero => simp [more] at h
    | succ j => rw [more_succ.2 ⟨h3, by omega⟩] at h; cases h
end Go.Proofs.YtknefjigdlbacaaGreatDoor.Kr
namespace Go.Proofs.YtknefjigdlbacaaGreatDoor.Rd
open Go.Proofs.YtknefjigdlbacaaGreatDoor
abbrev A := Go.Proofs.YtknefjigdlbacaaGreatDoor.Ac.A
/-- How many words there are, by the first answer. -/
def sz (gs : List Nat) : Nat := (Bx.size ((gs.getD 0 0 : Nat) : Int)).toNat
theorem sz_bd (gs : List Nat) : 1 ≤ sz gs ∧ sz gs ≤ 6 := by have := Bx.size_bd ((gs.getD 0 0 : Nat) : Int); unfold sz; omega
theorem sz_int (gs : List Nat) : ((sz gs : Nat) : Int) = Bx.size ((gs.getD 0 0 : Nat) : Int) := by have := Bx.size_bd ((gs.getD 0 0 : Nat) : Int); unfold sz; omega
/-- The act that comes behind j answers. -/
def act (b : Nat) (gs : List Nat) (j : Nat) : A := if j < sz gs then ⟨1, b, (j : Int), 0, 0⟩ else ⟨0, 0, 0, 0, 0⟩
theorem act_yes {b j : Nat} {gs : List Nat} (h : j < sz gs) : act b gs j = ⟨1, b, (j : Int), 0, 0⟩ := by simp [act, h]
theorem act_no {b j : Nat} {gs : List Nat} (h : ¬ j < sz gs) : act b gs j = ⟨0, 0, 0, 0, 0⟩ := by simp [act, h]
theorem act_zero {b : Nat} {gs : List Nat} : act b gs 0 = ⟨1, b, 0, 0, 0⟩ := act_yes (by have := sz_bd gs; omega)
/-- How many words were read. -/
def nr (gs : List Nat) (j : Nat) : Nat := min j (sz gs)
/-- The words that were read. -/
def rd (gs : List Nat) (j : Nat) : List Int := Kr.up (gs.take (nr gs j))
theorem nr_le (gs : List Nat) (j : Nat) : nr gs j ≤ 6 := by have := sz_bd gs; unfold nr; omega
theorem nr_yes {gs : List Nat} {j : Nat} (h : j < sz gs) : nr gs j = j := by unfold nr; omega
theorem nr_no {gs : List Nat} {j : Nat} (h : ¬ j < sz gs) : nr gs j = sz gs := by unfold nr; omega
theorem nr_next {gs : List Nat} {j : Nat} (h : j < sz gs) : nr gs (j + 1) = j + 1 := by unfold nr; omega
theorem nr_zero (gs : List Nat) : nr gs 0 = 0 := by unfold nr; omega
theorem rd_len {gs : List Nat} {j : Nat} (h : j ≤ gs.length) : (rd gs j).length = nr gs j := by
  unfold rd
  rw [Kr.up_len, List.length_take]
  have : nr gs j ≤ j := by unfold nr; omega
  omega
theorem rd_zero (gs : List Nat) : rd gs 0 = [] := by unfold rd; rw [nr_zero]; simp [Kr.up]
theorem rd_no {gs : List Nat} {j : Nat} (h : ¬ j < sz gs) : rd gs (j + 1) = rd gs j := by unfold rd; rw [nr_no h, nr_no (by omega)]
theorem rd_next {gs : List Nat} {j : Nat} (h : j < sz gs) (hj : j < gs.length) : rd gs (j + 1) = rd gs j ++ [((gs.getD j 0 : Nat) : Int)] := by
  unfold rd
  rw [nr_next h, nr_yes h, List.take_add_one, List.getD_eq_getElem?_getD, List.getElem?_eq_getElem hj, Option.toList_some]
  unfold Kr.up
  rw [List.map_append]
  rfl
theorem rd_wf {gs : List Nat} {j : Nat} (hw : ∀ x ∈ gs, x < 18446744073709551616) : ∀ x ∈ rd gs j, 0 ≤ x ∧ x ≤ 18446744073709551615 := by
  intro x hx
  unfold rd Kr.up at hx
  rw [List.mem_map] at hx
  obtain ⟨y, hy, rfl⟩ := hx
  have := hw y (List.mem_of_mem_take hy)
  omega
theorem rd_head {gs : List Nat} {j : Nat} (h : 0 < j) (hj : j ≤ gs.length) : (rd gs j)[0]? = some ((gs.getD 0 0 : Nat) : Int) := by
  have h1 : 0 < nr gs j := by have := sz_bd gs; unfold nr; omega
  have h0 : 0 < gs.length := by omega
  unfold rd Kr.up
  rw [List.getElem?_map, List.getElem?_take_of_lt h1, List.getD_eq_getElem?_getD, List.getElem?_eq_getElem h0]
  rfl
/-- What is answered in the end. -/
def key (gs : List Nat) : List UInt8 := Bx.key (rd gs (sz gs))
def val (gs : List Nat) : List UInt8 := Bx.val (rd gs (sz gs))
theorem rd_end {gs : List Nat} {j : Nat} (h : ¬ j < sz gs) : rd gs j = rd gs (sz gs) := by unfold rd; rw [nr_no h, nr_no (by omega)]
theorem wf_getD {gs : List Nat} (hw : ∀ x ∈ gs, x < 18446744073709551616) (j : Nat) : gs.getD j 0 < 18446744073709551616 := by
  rw [List.getD_eq_getElem?_getD]
  by_cases hj : j < gs.length
  · rw [List.getElem?_eq_getElem hj]; exact hw _ (List.getElem_mem hj)
  · rw [List.getElem?_eq_none (by omega)]; decide
/-! ### a box -/
theorem up_head (gs : List Nat) : ((gs.getD 0 0 : Nat) : Int) = (Kr.up gs).getD 0 0 := by cases gs <;> rfl
theorem sz_bx {k v : List UInt8} (hk : k.length ≤ 16) (hv : v.length ≤ 24) : sz (Kr.bx k v) = (Kr.bx k v).length := by
  unfold sz
  rw [up_head, Kr.bx_up, show (Bx.box k v).getD 0 0 = Bx.hd k.length v.length from rfl, Bx.box_size hk hv, Kr.bx_len, Int.toNat_natCast]
theorem rd_bx {k v : List UInt8} (hk : k.length ≤ 16) (hv : v.length ≤ 24) : rd (Kr.bx k v) (sz (Kr.bx k v)) = Bx.box k v := by
  unfold rd
  rw [nr_no (Nat.lt_irrefl _), sz_bx hk hv, List.take_length, Kr.bx_up]
theorem key_bx {k v : List UInt8} (hk : k.length ≤ 16) (hv : v.length ≤ 24) : key (Kr.bx k v) = k := by unfold key; rw [rd_bx hk hv, Bx.key_box hk]
theorem val_bx {k v : List UInt8} (hk : k.length ≤ 16) (hv : v.length ≤ 24) : val (Kr.bx k v) = v := by unfold val; rw [rd_bx hk hv, Bx.val_box hk hv]
theorem bx_wf (k v : List UInt8) : ∀ x ∈ Kr.bx k v, x < 18446744073709551616 := by
  intro x hx
  unfold Kr.bx at hx
  rw [List.mem_map] at hx
  obtain ⟨y, hy, rfl⟩ := hx
  have := Bx.box_wf y hy
  omega
end Go.Proofs.YtknefjigdlbacaaGreatDoor.Rd
