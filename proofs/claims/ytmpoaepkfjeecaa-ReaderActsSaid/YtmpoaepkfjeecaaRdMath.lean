/-
  The acts of who reads a box, as plain data. No program in it. By an AI agent.
-/
import Derived.Test.YtmpoaepkfjeecaaMkMath
namespace Go.Proofs.Ytmpoaepkfjeecaa.Rd
open Go.Proofs.Ytmpoaepkfjeecaa
abbrev A := Go.Proofs.Ytmpoaepkfjeecaa.Ac.A
/-- How many words there are, by the first answer. -/
def sz (gs : List Nat) : Nat := (Bx.size ((gs.getD 0 0 : Nat) : Int)).toNat
theorem sz_bd (gs : List Nat) : 1 ≤ sz gs ∧ sz gs ≤ 6 := by have := Bx.size_bd ((gs.getD 0 0 : Nat) : Int); unfold sz; omega
theorem sz_int (gs : List Nat) : ((sz gs : Nat) : Int) = Bx.size ((gs.getD 0 0 : Nat) : Int) := by have := Bx.size_bd ((gs.getD 0 0 : Nat) : Int); unfold sz; omega
/-- The act that comes behind j answers. -/
def act (b : Nat) (gs : List Nat) (j : Nat) : A := if j < sz gs then ⟨1, b, (j : Int), 0, 0⟩ else ⟨0, 0, 0, 0, 0⟩
theorem act_yes {b j : Nat} {gs : List Nat} (h : j < sz gs) : act b gs j = ⟨1, b, (j : Int), 0, 0⟩ := by simp [act, h]
theorem act_no {b j : Nat} {gs : List Nat} (h : ¬ j < sz gs) : act b gs j = ⟨0, 0, 0, 0, 0⟩ := by simp [act, h]
theorem act_zero {b : Nat} {gs : List Nat} : act b gs 0 = ⟨1, b, 0, 0, 0⟩ := act_yes (by have := sz_bd gs; omega)
/-- How many words were read. -/
def nr (gs : List Nat) (j : Nat) : Nat := min j (sz gs)
/-- The words that were read. -/
def rd (gs : List Nat) (j : Nat) : List Int := Kr.up (gs.take (nr gs j))
theorem nr_le (gs : List Nat) (j : Nat) : nr gs j ≤ 6 := by have := sz_bd gs; unfold nr; omega
theorem nr_yes {gs : List Nat} {j : Nat} (h : j < sz gs) : nr gs j = j := by unfold nr; omega
theorem nr_no {gs : List Nat} {j : Nat} (h : ¬ j < sz gs) : nr gs j = sz gs := by unfold nr; omega
theorem nr_next {gs : List Nat} {j : Nat} (h : j < sz gs) : nr gs (j + 1) = j + 1 := by unfold nr; omega
theorem nr_zero (gs : List Nat) : nr gs 0 = 0 := by unfold nr; omega
theorem rd_len {gs : List Nat} {j : Nat} (h : j ≤ gs.length) : (rd gs j).length = nr gs j := by
  unfold rd
  rw [Kr.up_len, List.length_take]
  have : nr gs j ≤ j := by unfold nr; omega
  omega
theorem rd_zero (gs : List Nat) : rd gs 0 = [] := by unfold rd; rw [nr_zero]; simp [Kr.up]
theorem rd_no {gs : List Nat} {j : Nat} (h : ¬ j < sz gs) : rd gs (j + 1) = rd gs j := by unfold rd; rw [nr_no h, nr_no (by omega)]
theorem rd_next {gs : List Nat} {j : Nat} (h : j < sz gs) (hj : j < gs.length) : rd gs (j + 1) = rd gs j ++ [((gs.getD j 0 : Nat) : Int)] := by
  unfold rd
  rw [nr_next h, nr_yes h, List.take_add_one, List.getD_eq_getElem?_getD, List.getElem?_eq_getElem hj, Option.toList_some]
  unfold Kr.up
  rw [List.map_append]
  rfl
theorem rd_wf {gs : List Nat} {j : Nat} (hw : ∀ x ∈ gs, x < 18446744073709551616) : ∀ x ∈ rd gs j, 0 ≤ x ∧ x ≤ 18446744073709551615 := by
  intro x hx
  unfold rd Kr.up at hx
  rw [List.mem_map] at hx
  obtain ⟨y, hy, rfl⟩ := hx
  have := hw y (List.mem_of_mem_take hy)
  omega
theorem rd_head {gs : List Nat} {j : Nat} (h : 0 < j) (hj : j ≤ gs.length) : (rd gs j)[0]? = some ((gs.getD 0 0 : Nat) : Int) := by
  have h1 : 0 < nr gs j := by have := sz_bd gs; unfold nr; omega
  have h0 : 0 < gs.length := by omega
  unfold rd Kr.up
  rw [List.getElem?_map, List.getElem?_take_of_lt h1, List.getD_eq_getElem?_getD, List.getElem?_eq_getElem h0]
  rfl
/-- What is answered in the end. -/
def key (gs : List Nat) : List UInt8 := Bx.key (rd gs (sz gs))
def val (gs : List Nat) : List UInt8 := Bx.val (rd gs (sz gs))
theorem rd_end {gs : List Nat} {j : Nat} (h : ¬ j < sz gs) : rd gs j = rd gs (sz gs) := by unfold rd; rw [nr_no h, nr_no (by omega)]
theorem wf_getD {gs : List Nat} (hw : ∀ x ∈ gs, x < 18446744073709551616) (j : Nat) : gs.getD j 0 < 18446744073709551616 := by
  rw [List.getD_eq_getElem?_getD]
  by_cases hj : j < gs.length
  · rw [List.getElem?_eq_getElem hj]; exact hw _ (List.getElem_mem hj)
  · rw [List.getElem?_eq_none (by omega)]; decide
/-! ### a box -/
theorem up_head (gs : List Nat) : ((gs.getD 0 0 : Nat) : Int) = (Kr.up gs).getD 0 0 := by cases gs <;> rfl
theorem sz_bx {k v : List UInt8} (hk : k.length ≤ 16) (hv : v.length ≤ 24) : sz (Kr.bx k v) = (Kr.bx k v).length := by
  unfold sz
  rw [up_head, Kr.bx_up, show (Bx.box k v).getD 0 0 = Bx.hd k.length v.length from rfl, Bx.box_size hk hv, Kr.bx_len, Int.toNat_natCast]
theorem rd_bx {k v : List UInt8} (hk : k.length ≤ 16) (hv : v.length ≤ 24) : rd (Kr.bx k v) (sz (Kr.bx k v)) = Bx.box k v := by
  unfold rd
  rw [nr_no (Nat.lt_irrefl _), sz_bx hk hv, List.take_length, Kr.bx_up]
theorem key_bx {k v : List UInt8} (hk : k.length ≤ 16) (hv : v.length ≤ 24) : key (Kr.bx k v) = k := by unfold key; rw [rd_bx hk hv, Bx.key_box hk]
theorem val_bx {k v : List UInt8} (hk : k.length ≤ 16) (hv : v.length ≤ 24) : val (Kr.bx k v) = v := by unfold val; rw [rd_bx hk hv, Bx.val_box hk hv]
theorem bx_wf (k v : List UInt8) : ∀ x ∈ Kr.bx k v, x < 18446744073709551616 := by
  intro x hx
  unfold Kr.bx at hx
  rw [List.mem_map] at hx
  obtain ⟨y, hy, rfl⟩ := hx
  have := Bx.box_wf y hy
  omega
end Go.Proofs.Ytmpoaepkfjeecaa.Rd
