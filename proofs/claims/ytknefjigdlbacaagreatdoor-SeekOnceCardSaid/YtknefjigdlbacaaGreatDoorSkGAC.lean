/-
  Several texts in one: Plain mathematics of boxes: no program in it; The acts of who makes a box, as plain data. No program in it; The acts of who reads a box, as plain data. No program in it; Plain mathematics of control words: no program in it. By an AI agent.
-/
import Derived.Test.YtknefjigdlbacaaGreatDoorSkGAB
import Derived.Test.YtknefjigdlbacaaGreatDoorSkGAA
namespace Go.Proofs.YtknefjigdlbacaaGreatDoor.Bx
open Go
open Go.Proofs.YtknefjigdlbacaaGreatDoor
/-- How long the key is by a head. -/
def lk (h : Int) : Int := min (h % 256) 16
/-- How long the value is by a head. -/
def lv (h : Int) : Int := min (h / 256 % 256) 24
/-- How many cells a box has by its head. -/
def size (h : Int) : Int := 1 + Pk.many (lk h) + Pk.many (lv h)
/-- The head of a key of k bytes and a value of v bytes. -/
def hd (k v : Nat) : Int := min (k : Int) 255 + 256 * min (v : Int) 255
/-- A box. -/
def box (k v : List UInt8) : List Int := hd k.length v.length :: (Pk.words k ++ Pk.words v)
/-- The key of words. -/
def key (l : List Int) : List UInt8 := Pk.txt (l.drop 1) (lk (l.getD 0 0)).toNat
/-- The value of words. -/
def val (l : List Int) : List UInt8 := Pk.txt (l.drop (1 + Pk.cnt (lk (l.getD 0 0)).toNat)) (lv (l.getD 0 0)).toNat
theorem lk_bd (h : Int) : 0 ≤ lk h ∧ lk h ≤ 16 := by unfold lk; omega
theorem lv_bd (h : Int) : 0 ≤ lv h ∧ lv h ≤ 24 := by unfold lv; omega
theorem hd_bd (k v : Nat) : 0 ≤ hd k v ∧ hd k v ≤ 65535 := by unfold hd; omega
theorem lk_hd {k v : Nat} (hk : k ≤ 16) : lk (hd k v) = k := by unfold lk hd; omega
theorem lv_hd {k v : Nat} (hk : k ≤ 16) (hv : v ≤ 24) : lv (hd k v) = v := by unfold lv hd; omega
theorem lk_nat (h : Int) : ∃ k : Nat, lk h = k ∧ k ≤ 16 := ⟨(lk h).toNat, by have := lk_bd h; omega, by have := lk_bd h; omega⟩
theorem lv_nat (h : Int) : ∃ k : Nat, lv h = k ∧ k ≤ 24 := ⟨(lv h).toNat, by have := lv_bd h; omega, by have := lv_bd h; omega⟩
theorem cnt_le {n m : Nat} (h : n ≤ 8 * m) : Pk.cnt n ≤ m := by unfold Pk.cnt; omega
theorem size_bd (h : Int) : 1 ≤ size h ∧ size h ≤ 6 := by
  obtain ⟨k, e1, h1⟩ := lk_nat h
  obtain ⟨v, e2, h2⟩ := lv_nat h
  unfold size
  rw [e1, e2, ← Pk.cnt_many, ← Pk.cnt_many]
  have a := cnt_le (n := k) (m := 2) h1
  have b := cnt_le (n := v) (m := 3) h2
  omega
/-- Texts of words that are alike as far as is read are one. -/
theorem txt_congr {l m : List Int} {n : Nat} (h : ∀ j, 8 * j < n → l.getD j 0 = m.getD j 0) : Pk.txt l n = Pk.txt m n := by
  refine List.ext_getElem (by rw [Pk.txt_len, Pk.txt_len]) fun j h1 h2 => ?_
  rw [Pk.txt_len] at h1
  rw [Pk.txt_get, Pk.txt_get]
  unfold Pk.by1
  rw [h (j / 8) (by omega)]
theorem txt_take {l : List Int} {n m : Nat} (h : n ≤ m) : (Pk.txt l m).take n = Pk.txt l n := by
  refine List.ext_getElem (by rw [List.length_take, Pk.txt_len, Pk.txt_len]; omega) fun j h1 h2 => ?_
  rw [List.getElem_take, Pk.txt_get, Pk.txt_get]
theorem getD_drop (l : List Int) (i j : Nat) : (l.drop i).getD j 0 = l.getD (i + j) 0 := by
  rw [List.getD_eq_getElem?_getD, List.getD_eq_getElem?_getD, List.getElem?_drop]
/-- The six cells into which words are copied. -/
def pad (l : List Int) : List Int := (List.range 6).map fun j => l.getD j 0
theorem pad_len (l : List Int) : (pad l).length = 6 := by simp [pad]
theorem pad_get {l : List Int} {j : Nat} (h : j < 6) : (pad l).getD j 0 = l.getD j 0 := by
  unfold pad
  rw [List.getD_eq_getElem?_getD, List.getElem?_map, List.getElem?_range h]; rfl
theorem pad_txt {l : List Int} {i n : Nat} (h : 8 * i + n ≤ 48) : Pk.txt ((pad l).drop i) n = Pk.txt (l.drop i) n := by
  refine txt_congr fun j hj => ?_
  rw [getD_drop, getD_drop, pad_get (by omega)]
theorem pad_cells (l : List Int) : pad l = [l.getD 0 0, l.getD 1 0, l.getD 2 0, l.getD 3 0, l.getD 4 0, l.getD 5 0] := by
  simp [pad, List.range, List.range.loop]
/-- What is copied, and zeroes behind it. -/
theorem pad_splice (l : List Int) : l.take 6 ++ [0, 0, 0, 0, 0, 0].drop (l.take 6).length = pad l := by
  rw [pad_cells]
  match l with
  | [] => rfl
  | [_] => rfl
  | [_, _] => rfl
  | [_, _, _] => rfl
  | [_, _, _, _] => rfl
  | [_, _, _, _, _] => rfl
  | _ :: _ :: _ :: _ :: _ :: _ :: _ => simp
/-! ### back -/
theorem box_len (k v : List UInt8) : (box k v).length = 1 + Pk.cnt k.length + Pk.cnt v.length := by
  simp [box, Pk.words_len]; omega
theorem box_size {k v : List UInt8} (hk : k.length ≤ 16) (hv : v.length ≤ 24) : size (hd k.length v.length) = ((box k v).length : Int) := by
  rw [box_len]
  unfold size
  rw [lk_hd hk, lv_hd hk hv, ← Pk.cnt_many, ← Pk.cnt_many]
  omega
theorem txt_front {a b : List Int} {n : Nat} (h : n ≤ 8 * a.length) : Pk.txt (a ++ b) n = Pk.txt a n := by
  refine txt_congr fun j hj => ?_
  rw [List.getD_eq_getElem?_getD, List.getD_eq_getElem?_getD, List.getElem?_append_left (by omega)]
theorem key_box {k v : List UInt8} (hk : k.length ≤ 16) : key (box k v) = k := by
  unfold key box
  rw [show (hd k.length v.length :: (Pk.words k ++ Pk.words v)).getD 0 0 = hd k.length v.length from rfl, lk_hd hk, List.drop_succ_cons, List.drop_zero, Int.toNat_natCast, txt_front (by rw [Pk.words_len]; unfold Pk.cnt; omega), Pk.txt_words]
theorem val_box {k v : List UInt8} (hk : k.length ≤ 16) (hv : v.length ≤ 24) : val (box k v) = v := by
  unfold val box
  rw [show (hd k.length v.length :: (Pk.words k ++ Pk.words v)).getD 0 0 = hd k.length v.length from rfl, lk_hd hk, lv_hd hk hv, Int.toNat_natCast, Int.toNat_natCast, Nat.add_comm, List.drop_succ_cons, List.drop_left' (Pk.words_len k), Pk.txt_words]
theorem box_inj {k v k' v' : List UInt8} (hk : k.length ≤ 16) (hv : v.length ≤ 24) (hk' : k'.length ≤ 16) (hv' : v'.length ≤ 24) : box k v = box k' v' ↔ k = k' ∧ v = v' := by
  constructor
  · intro h
    exact ⟨by rw [← key_box (v := v) hk, h, key_box hk'], by rw [← val_box hk hv, h, val_box hk' hv']⟩
  · rintro ⟨rfl, rfl⟩; rfl
theorem box_wf {k v : List UInt8} : ∀ x ∈ box k v, 0 ≤ x ∧ x ≤ 18446744073709551615 := by
  intro x hx
  simp only [box, List.mem_cons, List.mem_append] at hx
  rcases hx with rfl | h | h
  · have := hd_bd k.length v.length; omega
  · exact Pk.words_wf x h
  · exact Pk.words_wf x h
theorem good_all {l : List Int} : Pk.Good l (8 * (l.length : Int)) := by
  refine ⟨by omega, ?_, fun j h1 h2 => by omega⟩
  unfold Pk.many; split <;> omega
end Go.Proofs.YtknefjigdlbacaaGreatDoor.Bx
namespace Go.Proofs.YtknefjigdlbacaaGreatDoor.Kr
open Go.Proofs.YtknefjigdlbacaaGreatDoor
abbrev A := Go.Proofs.YtknefjigdlbacaaGreatDoor.Ac.A
/-- A box, in natural numbers. -/
def bx (k v : List UInt8) : List Nat := (Bx.box k v).map Int.toNat
/-- Numbers as whole numbers. -/
def up (l : List Nat) : List Int := l.map fun n : Nat => (n : Int)
theorem up_len (l : List Nat) : (up l).length = l.length := by simp [up]
theorem up_get {l : List Nat} {j : Nat} (h : j < l.length) : (up l)[j]'(by rw [up_len]; exact h) = ((l.getD j 0 : Nat) : Int) := by
  unfold up
  rw [List.getElem_map, List.getD_eq_getElem?_getD, List.getElem?_eq_getElem h]; rfl
theorem bx_up (k v : List UInt8) : up (bx k v) = Bx.box k v := by
  unfold up bx
  rw [List.map_map]
  refine (List.map_congr_left fun x hx => ?_).trans (List.map_id _)
  have := Bx.box_wf x hx
  simp only [Function.comp_apply, id]
  omega
theorem bx_len (k v : List UInt8) : (bx k v).length = (Bx.box k v).length := by simp [bx]
theorem bx_bd {k v : List UInt8} (hk : k.length ≤ 16) (hv : v.length ≤ 24) : 1 ≤ (bx k v).length ∧ (bx k v).length ≤ 6 := by
  have a := Bx.size_bd (Bx.hd k.length v.length)
  rw [Bx.box_size hk hv] at a
  rw [bx_len]; omega
/-- Does an act come, behind j answers, the first of them b? -/
def more (n j b : Nat) : Bool := j == 0 || (b != 0 && decide (j ≤ n))
/-- The act that comes next. -/
def act (l : List Nat) (j b : Nat) : A := if more l.length j b = true then (if j = 0 then ⟨5, 0, l.length, 0, 0⟩ else ⟨2, b, ((j - 1 : Nat) : Int), 0, l.getD (j - 1) 0⟩) else ⟨0, 0, 0, 0, 0⟩
theorem act_zero (l : List Nat) (b : Nat) : act l 0 b = ⟨5, 0, l.length, 0, 0⟩ := by simp [act, more]
theorem act_store {l : List Nat} {j b : Nat} (hb : b ≠ 0) (hj : j < l.length) : act l (j + 1) b = ⟨2, b, (j : Int), 0, l.getD j 0⟩ := by
  unfold act more
  simp [hb]; try omega
theorem act_none {l : List Nat} {j b : Nat} (h : more l.length j b = false) : act l j b = ⟨0, 0, 0, 0, 0⟩ := by simp [act, h]
/-- The first answer is the block. -/
def blk (j b v : Nat) : Nat := if j = 0 then v else b
theorem blk_zero (b v : Nat) : blk 0 b v = v := rfl
theorem blk_succ (j b v : Nat) : blk (j + 1) b v = b := rfl
theorem more_zero (n b : Nat) : more n 0 b = true := rfl
theorem more_succ {n j b : Nat} : more n (j + 1) b = true ↔ b ≠ 0 ∧ j < n := by simp [more]; intro _; omega
theorem more_no {n j b : Nat} (h : more n j b = false) : more n (j + 1) b = false := by
  cases h2 : more n (j + 1) b with
  | false => rfl
  | true =>
    obtain ⟨h3, h4⟩ := more_succ.1 h2
    cases j with
    | zero => simp [more] at h
    | succ j => rw [more_succ.2 ⟨h3, by omega⟩] at h; cases h
end Go.Proofs.YtknefjigdlbacaaGreatDoor.Kr
namespace Go.Proofs.YtknefjigdlbacaaGreatDoor.Rd
open Go.Proofs.YtknefjigdlbacaaGreatDoor
abbrev A := Go.Proofs.YtknefjigdlbacaaGreatDoor.Ac.A
/-- How many words there are, by the first answer. -/
def sz (gs : List Nat) : Nat := (Bx.size ((gs.getD 0 0 : Nat) : Int)).toNat
theorem sz_bd (gs : List Nat) : 1 ≤ sz gs ∧ sz gs ≤ 6 := by have := Bx.size_bd ((gs.getD 0 0 : Nat) : Int); unfold sz; omega
theorem sz_int (gs : List Nat) : ((sz gs : Nat) : Int) = Bx.size ((gs.getD 0 0 : Nat) : Int) := by have := Bx.size_bd ((gs.getD 0 0 : Nat) : Int); unfold sz; omega
/-- The act that comes behind j answers. -/
def act (b : Nat) (gs : List Nat) (j : Nat) : A := if j < sz gs then ⟨1, b, (j : Int), 0, 0⟩ else ⟨0, 0, 0, 0, 0⟩
theorem act_yes {b j : Nat} {gs : List Nat} (h : j < sz gs) : act b gs j = ⟨1, b, (j : Int), 0, 0⟩ := by simp [act, h]
theorem act_no {b j : Nat} {gs : List Nat} (h : ¬ j < sz gs) : act b gs j = ⟨0, 0, 0, 0, 0⟩ := by simp [act, h]
theorem act_zero {b : Nat} {gs : List Nat} : act b gs 0 = ⟨1, b, 0, 0, 0⟩ := act_yes (by have := sz_bd gs; omega)
/-- How many words were read. -/
def nr (gs : List Nat) (j : Nat) : Nat := min j (sz gs)
/-- The words that were read. -/
def rd (gs : List Nat) (j : Nat) : List Int := Kr.up (gs.take (nr gs j))
theorem nr_le (gs : List Nat) (j : Nat) : nr gs j ≤ 6 := by have := sz_bd gs; unfold nr; omega
theorem nr_yes {gs : List Nat} {j : Nat} (h : j < sz gs) : nr gs j = j := by unfold nr; omega
theorem nr_no {gs : List Nat} {j : Nat} (h : ¬ j < sz gs) : nr gs j = sz gs := by unfold nr; omega
theorem nr_next {gs : List Nat} {j : Nat} (h : j < sz gs) : nr gs (j + 1) = j + 1 := by unfold nr; omega
theorem nr_zero (gs : List Nat) : nr gs 0 = 0 := by unfold nr; omega
theorem rd_len {gs : List Nat} {j : Nat} (h : j ≤ gs.length) : (rd gs j).length = nr gs j := by
  unfold rd
  rw [Kr.up_len, List.length_take]
  have : nr gs j ≤ j := by unfold nr; omega
  omega
theorem rd_zero (gs : List Nat) : rd gs 0 = [] := by unfold rd; rw [nr_zero]; simp [Kr.up]
theorem rd_no {gs : List Nat} {j : Nat} (h : ¬ j < sz gs) : rd gs (j + 1) = rd gs j := by unfold rd; rw [nr_no h, nr_no (by omega)]
theorem rd_next {gs : List Nat} {j : Nat} (h : j < sz gs) (hj : j < gs.length) : rd gs (j + 1) = rd gs j ++ [((gs.getD j 0 : Nat) : Int)] := by
  unfold rd
  rw [nr_next h, nr_yes h, List.take_add_one, List.getD_eq_getElem?_getD, List.getElem?_eq_getElem hj, Option.toList_some]
  unfold Kr.up
  rw [List.map_append]
  rfl
theorem rd_wf {gs : List Nat} {j : Nat} (hw : ∀ x ∈ gs, x < 18446744073709551616) : ∀ x ∈ rd gs j, 0 ≤ x ∧ x ≤ 18446744073709551615 := by
  intro x hx
  unfold rd Kr.up at hx
  rw [List.mem_map] at hx
  obtain ⟨y, hy, rfl⟩ := hx
  have := hw y (List.mem_of_mem_take hy)
  omega
theorem rd_head {gs : List Nat} {j : Nat} (h : 0 < j) (hj : j ≤ gs.length) : (rd gs j)[0]? = some ((gs.getD 0 0 : Nat) : Int) := by
  have h1 : 0 < nr gs j := by have := sz_bd gs; unfold nr; omega
  have h0 : 0 < gs.length := by omega
  unfold rd Kr.up
  rw [List.getElem?_map, List.getElem?_take_of_lt h1, List.getD_eq_getElem?_getD, List.getElem?_eq_getElem h0]
  rfl
/-- What is answered in the end. -/
def key (gs : List Nat) : List UInt8 := Bx.key (rd gs (sz gs))
def val (gs : List Nat) : List UInt8 := Bx.val (rd gs (sz gs))
theorem rd_end {gs : List Nat} {j : Nat} (h : ¬ j < sz gs) : rd gs j = rd gs (sz gs) := by unfold rd; rw [nr_no h, nr_no (by omega)]
theorem wf_getD {gs : List Nat} (hw : ∀ x ∈ gs, x < 18446744073709551616) (j : Nat) : gs.getD j 0 < 18446744073709551616 := by
  rw [List.getD_eq_getElem?_getD]
  by_cases hj : j < gs.length
  · rw [List.getElem?_eq_getElem hj]; exact hw _ (List.getElem_mem hj)
  · rw [List.getElem?_eq_none (by omega)]; decide
/-! ### a box -/
theorem up_head (gs : List Nat) : ((gs.getD 0 0 : Nat) : Int) = (Kr.up gs).getD 0 0 := by cases gs <;> rfl
theorem sz_bx {k v : List UInt8} (hk : k.length ≤ 16) (hv : v.length ≤ 24) : sz (Kr.bx k v) = (Kr.bx k v).length := by
  unfold sz
  rw [up_head, Kr.bx_up, show (Bx.box k v).getD 0 0 = Bx.hd k.length v.length from rfl, Bx.box_size hk hv, Kr.bx_len, Int.toNat_natCast]
theorem rd_bx {k v : List UInt8} (hk : k.length ≤ 16) (hv : v.length ≤ 24) : rd (Kr.bx k v) (sz (Kr.bx k v)) = Bx.box k v := by
  unfold rd
  rw [nr_no (Nat.lt_irrefl _), sz_bx hk hv, List.take_length, Kr.bx_up]
theorem key_bx {k v : List UInt8} (hk : k.length ≤ 16) (hv : v.length ≤ 24) : key (Kr.bx k v) = k := by unfold key; rw [rd_bx hk hv, Bx.key_box hk]
theorem val_bx {k v : List UInt8} (hk : k.length ≤ 16) (hv : v.length ≤ 24) : val (Kr.bx k v) = v := by unfold val; rw [rd_bx hk hv, Bx.val_box hk hv]
theorem bx_wf (k v : List UInt8) : ∀ x ∈ Kr.bx k v, x < 18446744073709551616 := by
  intro x hx
  unfold Kr.bx at hx
  rw [List.mem_map] at hx
  obtain ⟨y, hy, rfl⟩ := hx
  have := Bx.box_wf y hy
  omega
end Go.Proofs.YtknefjigdlbacaaGreatDoor.Rd
namespace Go.Proofs.YtknefjigdlbacaaGreatDoor.Ct
open Go Ln
/-- Which class the byte i of x is of, to who has the claim c. -/
def cls (x i c : Int) : Int := if byt x i = 0 then 1 else if byt x i = 1 then 2 else if byt x i = c ∧ 128 ≤ c ∧ c ≤ 255 then 3 else 0
/-- The first place from a on whose class is not 0; 8, if there is none. -/
def nxp (x a c : Int) : Int := match (List.range 8).find? (fun k : Nat => decide (a ≤ (k : Int) ∧ cls x k c ≠ 0)) with | some k => k | none => 8
def nxc (x a c : Int) : Int := if nxp x a c < 8 then cls x (nxp x a c) c else 0
def clm (x i c : Int) : Int := if byt x i = 0 ∧ 128 ≤ c ∧ c ≤ 255 then wth x i c else x
def sea (x : Int) : Int := fil x 0 1
/-- The places below k of the bytes that are claims. -/
def cld (x : Int) (k : Nat) : List Int := ((List.range k).filter fun j : Nat => decide (128 ≤ byt x j)).map fun j : Nat => (j : Int)
/-- How many of the places below k are empty. -/
def emp (x : Int) : Nat → Nat
  | 0 => 0
  | k + 1 => emp x k + if byt x k = 0 then 1 else 0
theorem cls_free {x i : Int} (c : Int) (h : byt x i = 0) : cls x i c = 1 := if_pos h
theorem cls_shut {x i : Int} (c : Int) (h : byt x i = 1) : cls x i c = 2 := by unfold cls; rw [if_neg (by omega), if_pos h]
theorem cls_own {x i c : Int} (h0 : ¬ byt x i = 0) (h1 : ¬ byt x i = 1) (h : byt x i = c) (c0 : 128 ≤ c) (c1 : c ≤ 255) : cls x i c = 3 := by unfold cls; rw [if_neg h0, if_neg h1, if_pos ⟨h, c0, c1⟩]
theorem cls_other {x i c : Int} (h0 : ¬ byt x i = 0) (h1 : ¬ byt x i = 1) (h : ¬ (byt x i = c ∧ 128 ≤ c ∧ c ≤ 255)) : cls x i c = 0 := by unfold cls; rw [if_neg h0, if_neg h1, if_neg h]
theorem cls_bd (x i c : Int) : 0 ≤ cls x i c ∧ cls x i c ≤ 3 := by unfold cls; split <;> (try split) <;> (try split) <;> omega
/-- Places below k have the class 0, or lie ahead of a. -/
def NoN (x a c : Int) (k : Nat) : Prop := ∀ j : Nat, j < k → ¬ (a ≤ (j : Int) ∧ cls x j c ≠ 0)
theorem nxp_first (x a c : Int) : IsFirst (fun k => a ≤ (k : Int) ∧ cls x k c ≠ 0) (nxp x a c) := by
  unfold nxp
  cases h : (List.range 8).find? (fun k : Nat => decide (a ≤ (k : Int) ∧ cls x k c ≠ 0)) with
  | none =>
    refine isFirst_none fun k hk q => ?_
    have := List.find?_eq_none.1 h k (by simpa using hk)
    exact this (by simpa using q)
  | some y =>
    obtain ⟨u, v, e, hy, hu⟩ := find_split h
    have hy' : a ≤ (y : Int) ∧ cls x y c ≠ 0 := by simpa using hy
    have hm : y ∈ List.range 8 := by rw [e]; simp
    have y8 : y < 8 := by simpa using hm
    refine ⟨by simp, by simp; omega, fun k hk q => ?_, fun _ => by simpa using hy'⟩
    have hk' : k < y := by simpa using hk
    have hkm : k ∈ List.range 8 := by simp; omega
    have hs := List.pairwise_lt_range (n := 8)
    rw [e] at hkm hs
    rcases List.mem_append.1 hkm with hku | hkv
    · have := hu k hku
      simp only [decide_eq_false_iff_not] at this
      exact this q
    · rcases List.mem_cons.1 hkv with rfl | hkv
      · omega
      · have := (List.pairwise_append.1 hs).2.1
        have := (List.pairwise_cons.1 this).1 k hkv
        omega
theorem nxp_bd (x a c : Int) : 0 ≤ nxp x a c ∧ nxp x a c ≤ 8 := ⟨(nxp_first x a c).1, (nxp_first x a c).2.1⟩
theorem nxp_here {x a c : Int} {k : Nat} (hk : k < 8) (hn : NoN x a c k) (ha : a ≤ (k : Int)) (h : cls x k c ≠ 0) : (k : Int) = nxp x a c :=
  IsFirst.unique (P := fun k => a ≤ (k : Int) ∧ cls x k c ≠ 0) ⟨by omega, by omega, fun j hj => hn j (by omega), fun _ => by simpa using ⟨ha, h⟩⟩ (nxp_first x a c)
theorem nxc_here {x a c : Int} {k : Nat} (hk : k < 8) (hn : NoN x a c k) (ha : a ≤ (k : Int)) (h : cls x k c ≠ 0) : cls x k c = nxc x a c := by
  have e := nxp_here hk hn ha h
  unfold nxc
  rw [← e, if_pos (by omega)]
theorem nxp_none {x a c : Int} {k : Nat} (h8 : 8 ≤ k) (hn : NoN x a c k) : (8 : Int) = nxp x a c :=
  IsFirst.unique (P := fun k => a ≤ (k : Int) ∧ cls x k c ≠ 0) (isFirst_none fun j hj => hn j (by omega)) (nxp_first x a c)
theorem nxc_none {x a c : Int} {k : Nat} (h8 : 8 ≤ k) (hn : NoN x a c k) : (0 : Int) = nxc x a c := by
  have e := nxp_none h8 hn
  unfold nxc
  rw [← e, if_neg (by omega)]
theorem noN_zero {x a c : Int} {k : Nat} (h : (k : Int) ≤ a ∨ k = 0) : NoN x a c k := fun j hj q => by omega
theorem noN_succ {x a c : Int} {k : Nat} (hn : NoN x a c k) (h : (k : Int) < a ∨ cls x k c = 0) : NoN x a c (k + 1) := by
  intro j hj q
  by_cases e : j = k
  · subst e
    rcases h with h | h
    · omega
    · exact q.2 h
  · exact hn j (by omega) q
theorem clm_yes {x i c : Int} (h : byt x i = 0) (c0 : 128 ≤ c) (c1 : c ≤ 255) : clm x i c = wth x i c := if_pos ⟨h, c0, c1⟩
theorem clm_no {x i c : Int} (h : ¬ (byt x i = 0 ∧ 128 ≤ c ∧ c ≤ 255)) : clm x i c = x := if_neg h
theorem clm_bd {x : Int} (i c : Int) (h0 : 0 ≤ x) (h1 : x ≤ 18446744073709551615) : 0 ≤ clm x i c ∧ clm x i c ≤ 18446744073709551615 := by
  unfold clm; split
  · exact wth_bd i c h0 h1
  · exact ⟨h0, h1⟩
theorem sea_bd {x : Int} (h0 : 0 ≤ x) (h1 : x ≤ 18446744073709551615) : 0 ≤ sea x ∧ sea x ≤ 18446744073709551615 := filL_bd 1 (plc x 0) h0 h1
/-- A byte that is not 0 stays. -/
theorem clm_keeps {x i c : Int} {k : Nat} (hk : k < 8) (h : ¬ byt x k = 0) : byt (clm x i c) k = byt x k := by
  unfold clm; split
  · next q =>
    rw [byt_wth hk, if_neg]
    rintro ⟨e, -⟩
    rw [← e] at q
    exact h q.1
  · rfl
theorem sea_byte {x : Int} {k : Nat} (hk : k < 8) : byt (sea x) k = if byt x k = 0 then 1 else byt x k := byt_fil (by omega) (by omega) hk
theorem sea_nozero {x : Int} {k : Nat} (hk : k < 8) : ¬ byt (sea x) k = 0 := by rw [sea_byte hk]; split <;> omega
theorem sea_twice (x : Int) : sea (sea x) = sea x := by
  have : plc (sea x) 0 = [] := List.eq_nil_iff_forall_not_mem.2 fun k hk => sea_nozero (mem_plc.1 hk).1 (mem_plc.1 hk).2
  show filL 1 (sea x) (plc (sea x) 0) = sea x
  rw [this]; rfl
theorem cld_hit {x : Int} {k : Nat} (h : 128 ≤ byt x k) : cld x (k + 1) = cld x k ++ [(k : Int)] := by simp [cld, List.range_succ, h]
theorem cld_miss {x : Int} {k : Nat} (h : ¬ 128 ≤ byt x k) : cld x (k + 1) = cld x k := by simp [cld, List.range_succ, h]
theorem cld_len (x : Int) (k : Nat) : (cld x k).length ≤ k := by
  have := List.length_filter_le (fun j : Nat => decide (128 ≤ byt x j)) (List.range k)
  simpa [cld] using this
theorem cld_sea (x : Int) : cld (sea x) 8 = cld x 8 := by
  unfold cld
  congr 1
  refine List.filter_congr fun k hk => ?_
  have hk8 : k < 8 := by simpa using hk
  rw [sea_byte hk8]
  by_cases h : byt x k = 0
  · rw [if_pos h, h]; rfl
  · rw [if_neg h]
theorem emp_le (x : Int) (k : Nat) : emp x k ≤ k := by
  induction k with
  | zero => exact Nat.le_refl _
  | succ k ih => unfold emp; split <;> omega
theorem emp_hit {x : Int} {k : Nat} (h : byt x k = 0) : emp x (k + 1) = emp x k + 1 := by show emp x k + _ = _; rw [if_pos h]
theorem emp_miss {x : Int} {k : Nat} (h : ¬ byt x k = 0) : emp x (k + 1) = emp x k := by show emp x k + _ = _; rw [if_neg h]; rfl
theorem emp_some {x : Int} {k : Nat} (h : ¬ emp x k = 0) : ∃ j, j < k ∧ byt x j = 0 := by
  induction k with
  | zero => exact absurd rfl h
  | succ k ih =>
    by_cases e : byt x k = 0
    · exact ⟨k, by omega, e⟩
    · rw [emp_miss e] at h
      obtain ⟨j, hj, q⟩ := ih h
      exact ⟨j, by omega, q⟩
/-- Of a sealed word: no class but 2 (and 0), for who has no claim. -/
theorem sea_class {x : Int} {k : Nat} (hk : k < 8) : cls (sea x) k 0 = 2 ∨ cls (sea x) k 0 = 0 := by
  have h := sea_nozero (x := x) hk
  by_cases h1 : byt (sea x) k = 1
  · exact .inl (cls_shut 0 h1)
  · exact .inr (cls_other h h1 (by omega))
theorem sea_next {x : Int} (h : ¬ emp x 8 = 0) : nxp (sea x) 0 0 < 8 ∧ nxc (sea x) 0 0 = 2 := by
  obtain ⟨j, hj, e⟩ := emp_some h
  have hf := nxp_first (sea x) 0 0
  have hb := nxp_bd (sea x) 0 0
  have hc : cls (sea x) j 0 = 2 := cls_shut 0 (by rw [sea_byte hj, if_pos e])
  have hlt : nxp (sea x) 0 0 < 8 := by
    refine Decidable.byContradiction fun q => ?_
    exact hf.2.2.1 j (by omega) ⟨by omega, by rw [hc]; decide⟩
  refine ⟨hlt, ?_⟩
  have hn := hf.2.2.2 hlt
  obtain ⟨m, hm⟩ := Int.eq_ofNat_of_zero_le hb.1
  unfold nxc
  rw [if_pos hlt]
  rw [hm] at hn hlt ⊢
  simp only [Int.toNat_natCast] at hn
  rcases sea_class (x := x) (k := m) (by omega) with q | q
  · exact q
  · exact absurd q hn.2
end Go.Proofs.YtknefjigdlbacaaGreatDoor.Ct
