/-
  Plain mathematics of ways: steps that grow by one each, taken modulo a power of two. No program in it. By an AI agent.
-/
import Derived.Test.YtkfhpebbjcecbaaChecked
namespace Go.Proofs.Ytkfhpebbjcecbaa.Rt
/-- 0 + 1 + .. + i. -/
def tri : Nat → Nat
  | 0 => 0
  | i + 1 => tri i + (i + 1)
theorem tri_two (i : Nat) : 2 * tri i = i * (i + 1) := by
  induction i with
  | zero => rfl
  | succ i ih => rw [tri, Nat.mul_add, ih, ← Nat.add_mul]; rw [Nat.mul_comm]
theorem tri_half (i : Nat) : i * (i + 1) / 2 = tri i := by have := tri_two i; omega
theorem tri_mono {i j : Nat} (h : i ≤ j) : tri i ≤ tri j := by
  induction h with
  | refl => exact Nat.le_refl _
  | step _ ih => rw [tri]; omega
theorem tri_le {i : Nat} (h : i < 512) : tri i ≤ 130816 := Nat.le_trans (tri_mono (Nat.le_of_lt_succ h)) (by have := tri_two 511; omega)
/-- How many groups there are of a log. -/
def grp (log : Int) : Nat := if 0 ≤ log ∧ log ≤ 9 then 2 ^ log.toNat else 0
theorem grp_in {log : Int} (h0 : 0 ≤ log) (h1 : log ≤ 9) : grp log = 2 ^ log.toNat := by unfold grp; rw [if_pos ⟨h0, h1⟩]
theorem grp_out {log : Int} (h : log < 0 ∨ 9 < log) : grp log = 0 := by unfold grp; rw [if_neg (by omega)]
theorem ten {log : Int} (h0 : 0 ≤ log) (h1 : log ≤ 9) : log = 0 ∨ log = 1 ∨ log = 2 ∨ log = 3 ∨ log = 4 ∨ log = 5 ∨ log = 6 ∨ log = 7 ∨ log = 8 ∨ log = 9 := by omega
theorem grp_le (log : Int) : grp log ≤ 512 := by
  by_cases h : 0 ≤ log ∧ log ≤ 9
  · rcases ten h.1 h.2 with rfl | rfl | rfl | rfl | rfl | rfl | rfl | rfl | rfl | rfl <;> decide
  · unfold grp; rw [if_neg h]; omega
theorem grp_pos {log : Int} (h0 : 0 ≤ log) (h1 : log ≤ 9) : 1 ≤ grp log := by
  rw [grp_in h0 h1]; exact Nat.one_le_two_pow
/-- The i-th group of n from s on. -/
def gat (s n i : Nat) : Nat := (s + tri i) % n
theorem gat_lt {s n i : Nat} (h : 0 < n) : gat s n i < n := Nat.mod_lt _ h
/-- The first k groups. -/
def wayTo (s n k : Nat) : List Nat := (List.range k).map (gat s n)
theorem wayTo_len (s n k : Nat) : (wayTo s n k).length = k := by simp [wayTo]
theorem wayTo_snoc (s n k : Nat) : wayTo s n (k + 1) = wayTo s n k ++ [gat s n k] := by simp [wayTo, List.range_succ]
theorem wayTo_get {s n k i : Nat} (h : i < (wayTo s n k).length) : (wayTo s n k)[i] = gat s n i := by simp [wayTo]
theorem wayTo_pre {s n j k : Nat} (h : j ≤ k) : wayTo s n j <+: wayTo s n k := by
  induction h with
  | refl => exact List.prefix_refl _
  | step _ ih => rw [wayTo_snoc]; exact ih.trans (List.prefix_append _ _)
theorem pre_wayTo {s n k : Nat} {l : List Nat} (h : l <+: wayTo s n k) : l = wayTo s n l.length := by
  have hl := h.length_le
  rw [wayTo_len] at hl
  exact (List.prefix_of_prefix_length_le h (wayTo_pre hl) (by rw [wayTo_len]; exact Nat.le_refl _)).eq_of_length (by rw [wayTo_len])
/-- All groups in their order. -/
def way (s n : Nat) : List Nat := wayTo s n n
theorem way_len (s n : Nat) : (way s n).length = n := wayTo_len s n n
/-- Where the i-th group lies, of a hash and a log; -1, if there is none. -/
def gp (h : Nat) (log i : Int) : Int := if 0 ≤ i ∧ i < grp log then ((gat (h / 128) (grp log) i.toNat : Nat) : Int) else -1
theorem gp_out {h : Nat} {log i : Int} (hi : i < 0 ∨ (grp log : Int) ≤ i) : gp h log i = -1 := by unfold gp; rw [if_neg (by omega)]
theorem gp_in {h : Nat} {log : Int} {i : Nat} (hi : i < grp log) : gp h log i = ((gat (h / 128) (grp log) i : Nat) : Int) := by
  unfold gp; rw [if_pos (by omega)]; simp
theorem last_gat {s n j : Nat} : (wayTo s n (j + 1)).getLastD 0 = gat s n j := by rw [wayTo_snoc]; simp
theorem gp_last {h : Nat} {log i : Int} {pre : List Nat} (hp : pre <+: way (h / 128) (grp log)) (hl : (pre.length : Int) = i + 1) (hi : 0 ≤ i) : ((pre.getLastD 0 : Nat) : Int) = gp h log i := by
  obtain ⟨j, rfl⟩ := Int.eq_ofNat_of_zero_le hi
  have hlen := hp.length_le
  rw [way_len] at hlen
  have hj : pre.length = j + 1 := by omega
  rw [gp_in (by omega), pre_wayTo hp, hj, last_gat]
theorem odd_dvd {m a b : Nat} (ha : a % 2 = 1) (h : 2 ^ m ∣ a * b) : 2 ^ m ∣ b := by
  induction m generalizing b with
  | zero => exact ⟨b, by omega⟩
  | succ m ih =>
    have hb : b % 2 = 0 := by
      have h2 : 2 ∣ a * b := Nat.dvd_trans ⟨2 ^ m, by rw [Nat.pow_succ, Nat.mul_comm]⟩ h
      have h3 := Nat.mod_eq_zero_of_dvd h2
      rw [Nat.mul_mod, ha] at h3
      omega
    obtain ⟨c, rfl⟩ : ∃ c, b = 2 * c := ⟨b / 2, by omega⟩
    have h4 : 2 ^ m ∣ a * c := by
      obtain ⟨d, hd⟩ := h
      refine ⟨d, ?_⟩
      have : 2 * (a * c) = 2 * (2 ^ m * d) := by
        rw [Nat.pow_succ] at hd
        calc 2 * (a * c) = a * (2 * c) := by rw [Nat.mul_left_comm]
          _ = 2 ^ m * 2 * d := hd
          _ = 2 * (2 ^ m * d) := by rw [Nat.mul_comm (2 ^ m) 2, Nat.mul_assoc]
      omega
    obtain ⟨d, hd⟩ := ih h4
    exact ⟨d, by rw [hd, Nat.pow_succ, Nat.mul_comm (2 ^ m) 2, Nat.mul_assoc]⟩
theorem gat_le {s k i j : Nat} (hij : i ≤ j) (hj : j < 2 ^ k) (h : gat s (2 ^ k) i = gat s (2 ^ k) j) : i = j := by
  have ht := tri_mono hij
  have hd : 2 ^ k ∣ tri j - tri i := by
    unfold gat at h
    have h2 := Nat.sub_mod_eq_zero_of_mod_eq h.symm
    have h3 : s + tri j - (s + tri i) = tri j - tri i := by omega
    rw [h3] at h2
    exact Nat.dvd_of_mod_eq_zero h2
  have hp : (j - i) * (i + j + 1) = 2 * (tri j - tri i) := by
    obtain ⟨a, rfl⟩ := Nat.exists_eq_add_of_le hij
    have e1 := tri_two i
    have e2 := tri_two (i + a)
    rw [Nat.mul_sub, e1, e2]
    have e3 : i + a - i = a := by omega
    rw [e3]
    have e4 : (i + a) * (i + a + 1) = i * (i + 1) + a * (i + (i + a) + 1) := by
      simp only [Nat.add_mul, Nat.mul_add, Nat.mul_one]
      have := Nat.mul_comm a i
      omega
    omega
  have hd2 : 2 ^ (k + 1) ∣ (j - i) * (i + j + 1) := by
    rw [hp, Nat.pow_succ, Nat.mul_comm (2 ^ k) 2]
    exact Nat.mul_dvd_mul_left 2 hd
  have hpw : 2 ^ (k + 1) = 2 * 2 ^ k := by rw [Nat.pow_succ, Nat.mul_comm]
  by_cases hodd : (j - i) % 2 = 1
  · have h5 := Nat.le_of_dvd (by omega) (odd_dvd hodd hd2)
    omega
  · have hb : (i + j + 1) % 2 = 1 := by omega
    rw [Nat.mul_comm] at hd2
    have h6 := odd_dvd hb hd2
    rcases Nat.eq_zero_or_pos (j - i) with h7 | h7
    · omega
    · have := Nat.le_of_dvd h7 h6
      omega
theorem gat_inj {s k i j : Nat} (hi : i < 2 ^ k) (hj : j < 2 ^ k) (h : gat s (2 ^ k) i = gat s (2 ^ k) j) : i = j := by
  rcases Nat.le_total i j with hij | hij
  · exact gat_le hij hj h
  · exact (gat_le hij hi h.symm).symm
theorem gat_new {log : Int} {s i : Nat} (h0 : 0 ≤ log) (h1 : log ≤ 9) (hi : i < grp log) : gat s (grp log) i ∉ wayTo s (grp log) i := by
  rw [grp_in h0 h1] at hi ⊢
  intro hm
  simp only [wayTo, List.mem_map, List.mem_range] at hm
  obtain ⟨j, hj, he⟩ := hm
  have := gat_inj (Nat.lt_trans hj hi) hi he
  omega
end Go.Proofs.Ytkfhpebbjcecbaa.Rt
