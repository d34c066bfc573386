/-
  Plain mathematics of boxes: no program in it. By an AI agent.
-/
import Derived.Test.YtmpoaepkfjeecaaPackMath
namespace Go.Proofs.Ytmpoaepkfjeecaa.Bx
open Go
open Go.Proofs.Ytmpoaepkfjeecaa
/-- How long the key is by a head. -/
def lk (h : Int) : Int := min (h % 256) 16
/-- How long the value is by a head. -/
def lv (h : Int) : Int := min (h / 256 % 256) 24
/-- How many cells a box has by its head. -/
def size (h : Int) : Int := 1 + Pk.many (lk h) + Pk.many (lv h)
/-- The head of a key of k bytes and a value of v bytes. -/
def hd (k v : Nat) : Int := min (k : Int) 255 + 256 * min (v : Int) 255
/-- A box. -/
def box (k v : List UInt8) : List Int := hd k.length v.length :: (Pk.words k ++ Pk.words v)
/-- The key of words. -/
def key (l : List Int) : List UInt8 := Pk.txt (l.drop 1) (lk (l.getD 0 0)).toNat
/-- The value of words. -/
def val (l : List Int) : List UInt8 := Pk.txt (l.drop (1 + Pk.cnt (lk (l.getD 0 0)).toNat)) (lv (l.getD 0 0)).toNat
theorem lk_bd (h : Int) : 0 ≤ lk h ∧ lk h ≤ 16 := by unfold lk; omega
theorem lv_bd (h : Int) : 0 ≤ lv h ∧ lv h ≤ 24 := by unfold lv; omega
theorem hd_bd (k v : Nat) : 0 ≤ hd k v ∧ hd k v ≤ 65535 := by unfold hd; omega
theorem lk_hd {k v : Nat} (hk : k ≤ 16) : lk (hd k v) = k := by unfold lk hd; omega
theorem lv_hd {k v : Nat} (hk : k ≤ 16) (hv : v ≤ 24) : lv (hd k v) = v := by unfold lv hd; omega
theorem lk_nat (h : Int) : ∃ k : Nat, lk h = k ∧ k ≤ 16 := ⟨(lk h).toNat, by have := lk_bd h; omega, by have := lk_bd h; omega⟩
theorem lv_nat (h : Int) : ∃ k : Nat, lv h = k ∧ k ≤ 24 := ⟨(lv h).toNat, by have := lv_bd h; omega, by have := lv_bd h; omega⟩
theorem cnt_le {n m : Nat} (h : n ≤ 8 * m) : Pk.cnt n ≤ m := by unfold Pk.cnt; omega
theorem size_bd (h : Int) : 1 ≤ size h ∧ size h ≤ 6 := by
  obtain ⟨k, e1, h1⟩ := lk_nat h
  obtain ⟨v, e2, h2⟩ := lv_nat h
  unfold size
  rw [e1, e2, ← Pk.cnt_many, ← Pk.cnt_many]
  have a := cnt_le (n := k) (m := 2) h1
  have b := cnt_le (n := v) (m := 3) h2
  omega
/-- Texts of words that are alike as far as is read are one. -/
theorem txt_congr {l m : List Int} {n : Nat} (h : ∀ j, 8 * j < n → l.getD j 0 = m.getD j 0) : Pk.txt l n = Pk.txt m n := by
  refine List.ext_getElem (by rw [Pk.txt_len, Pk.txt_len]) fun j h1 h2 => ?_
  rw [Pk.txt_len] at h1
  rw [Pk.txt_get, Pk.txt_get]
  unfold Pk.by1
  rw [h (j / 8) (by omega)]
theorem txt_take {l : List Int} {n m : Nat} (h : n ≤ m) : (Pk.txt l m).take n = Pk.txt l n := by
  refine List.ext_getElem (by rw [List.length_take, Pk.txt_len, Pk.txt_len]; omega) fun j h1 h2 => ?_
  rw [List.getElem_take, Pk.txt_get, Pk.txt_get]
theorem getD_drop (l : List Int) (i j : Nat) : (l.drop i).getD j 0 = l.getD (i + j) 0 := by
  rw [List.getD_eq_getElem?_getD, List.getD_eq_getElem?_getD, List.getElem?_drop]
/-- The six cells into which words are copied. -/
def pad (l : List Int) : List Int := (List.range 6).map fun j => l.getD j 0
theorem pad_len (l : List Int) : (pad l).length = 6 := by simp [pad]
theorem pad_get {l : List Int} {j : Nat} (h : j < 6) : (pad l).getD j 0 = l.getD j 0 := by
  unfold pad
  rw [List.getD_eq_getElem?_getD, List.getElem?_map, List.getElem?_range h]; rfl
theorem pad_txt {l : List Int} {i n : Nat} (h : 8 * i + n ≤ 48) : Pk.txt ((pad l).drop i) n = Pk.txt (l.drop i) n := by
  refine txt_congr fun j hj => ?_
  rw [getD_drop, getD_drop, pad_get (by omega)]
theorem pad_cells (l : List Int) : pad l = [l.getD 0 0, l.getD 1 0, l.getD 2 0, l.getD 3 0, l.getD 4 0, l.getD 5 0] := by
  simp [pad, List.range, List.range.loop]
/-- What is copied, and zeroes behind it. -/
theorem pad_splice (l : List Int) : l.take 6 ++ [0, 0, 0, 0, 0, 0].drop (l.take 6).length = pad l := by
  rw [pad_cells]
  match l with
  | [] => rfl
  | [_] => rfl
  | [_, _] => rfl
  | [_, _, _] => rfl
  | [_, _, _, _] => rfl
  | [_, _, _, _, _] => rfl
  | _ :: _ :: _ :: _ :: _ :: _ :: _ => simp
/-! ### back -/
theorem box_len (k v : List UInt8) : (box k v).length = 1 + Pk.cnt k.length + Pk.cnt v.length := by
  simp [box, Pk.words_len]; omega
theorem box_size {k v : List UInt8} (hk : k.length ≤ 16) (hv : v.length ≤ 24) : size (hd k.length v.length) = ((box k v).length : Int) := by
  rw [box_len]
  unfold size
  rw [lk_hd hk, lv_hd hk hv, ← Pk.cnt_many, ← Pk.cnt_many]
  omega
theorem txt_front {a b : List Int} {n : Nat} (h : n ≤ 8 * a.length) : Pk.txt (a ++ b) n = Pk.txt a n := by
  refine txt_congr fun j hj => ?_
  rw [List.getD_eq_getElem?_getD, List.getD_eq_getElem?_getD, List.getElem?_append_left (by omega)]
theorem key_box {k v : List UInt8} (hk : k.length ≤ 16) : key (box k v) = k := by
  unfold key box
  rw [show (hd k.length v.length :: (Pk.words k ++ Pk.words v)).getD 0 0 = hd k.length v.length from rfl, lk_hd hk, List.drop_succ_cons, List.drop_zero, Int.toNat_natCast, txt_front (by rw [Pk.words_len]; unfold Pk.cnt; omega), Pk.txt_words]
theorem val_box {k v : List UInt8} (hk : k.length ≤ 16) (hv : v.length ≤ 24) : val (box k v) = v := by
  unfold val box
  rw [show (hd k.length v.length :: (Pk.words k ++ Pk.words v)).getD 0 0 = hd k.length v.length from rfl, lk_hd hk, lv_hd hk hv, Int.toNat_natCast, Int.toNat_natCast, Nat.add_comm, List.drop_succ_cons, List.drop_left' (Pk.words_len k), Pk.txt_words]
theorem box_inj {k v k' v' : List UInt8} (hk : k.length ≤ 16) (hv : v.length ≤ 24) (hk' : k'.length ≤ 16) (hv' : v'.length ≤ 24) : box k v = box k' v' ↔ k = k' ∧ v = v' := by
  constructor
  · intro h
    exact ⟨by rw [← key_box (v := v) hk, h, key_box hk'], by rw [← val_box hk hv, h, val_box hk' hv']⟩
  · rintro ⟨rfl, rfl⟩; rfl
theorem box_wf {k v : List UInt8} : ∀ x ∈ box k v, 0 ≤ x ∧ x ≤ 18446744073709551615 := by
  intro x hx
  simp only [box, List.mem_cons, List.mem_append] at hx
  rcases hx with rfl | h | h
  · have := hd_bd k.length v.length; omega
  · exact Pk.words_wf x h
  · exact Pk.words_wf x h
theorem good_all {l : List Int} : Pk.Good l (8 * (l.length : Int)) := by
  refine ⟨by omega, ?_, fun j h1 h2 => by omega⟩
  unfold Pk.many; split <;> omega
end Go.Proofs.Ytmpoaepkfjeecaa.Bx
