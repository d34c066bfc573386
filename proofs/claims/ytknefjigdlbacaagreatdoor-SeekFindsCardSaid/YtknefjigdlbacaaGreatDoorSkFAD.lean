/-
  Several texts in one: Plain mathematics of control words: no program in it; Plain mathematics of ways: steps that grow by one each, taken modulo a power of two. No program in it; Plain mathematics of a table's cells: how many groups there are of a log, and what a cell is. No program in it. By an AI agent.
-/
import Derived.Test.YtknefjigdlbacaaGreatDoorSkFAB
import Derived.Test.YtknefjigdlbacaaGreatDoorChecked
namespace Go.Proofs.YtknefjigdlbacaaGreatDoor.Ct
open Go Ln
/-- Which class the byte i of x is of, to who has the claim c. -/
def cls (x i c : Int) : Int := if byt x i = 0 then 1 else if byt x i = 1 then 2 else if byt x i = c ∧ 128 ≤ c ∧ c ≤ 255 then 3 else 0
/-- The first place from a on whose class is not 0; 8, if there is none. -/
def nxp (x a c : Int) : Int := match (List.range 8).find? (fun k : Nat => decide (a ≤ (k : Int) ∧ cls x k c ≠ 0)) with | some k => k | none => 8
def nxc (x a c : Int) : Int := if nxp x a c < 8 then cls x (nxp x a c) c else 0
def clm (x i c : Int) : Int := if byt x i = 0 ∧ 128 ≤ c ∧ c ≤ 255 then wth x i c else x
def sea (x : Int) : Int := fil x 0 1
/-- The places below k of the bytes that are claims. -/
def cld (x : Int) (k : Nat) : List Int := ((List.range k).filter fun j : Nat => decide (128 ≤ byt x j)).map fun j : Nat => (j : Int)
/-- How many of the places below k are empty. -/
def emp (x : Int) : Nat → Nat
  | 0 => 0
  | k + 1 => emp x k + if byt x k = 0 then 1 else 0
theorem cls_free {x i : Int} (c : Int) (h : byt x i = 0) : cls x i c = 1 := if_pos h
theorem cls_shut {x i : Int} (c : Int) (h : byt x i = 1) : cls x i c = 2 := by unfold cls; rw [if_neg (by omega), if_pos h]
theorem cls_own {x i c : Int} (h0 : ¬ byt x i = 0) (h1 : ¬ byt x i = 1) (h : byt x i = c) (c0 : 128 ≤ c) (c1 : c ≤ 255) : cls x i c = 3 := by unfold cls; rw [if_neg h0, if_neg h1, if_pos ⟨h, c0, c1⟩]
theorem cls_other {x i c : Int} (h0 : ¬ byt x i = 0) (h1 : ¬ byt x i = 1) (h : ¬ (byt x i = c ∧ 128 ≤ c ∧ c ≤ 255)) : cls x i c = 0 := by unfold cls; rw [if_neg h0, if_neg h1, if_neg h]
theorem cls_bd (x i c : Int) : 0 ≤ cls x i c ∧ cls x i c ≤ 3 := by unfold cls; split <;> (try split) <;> (try split) <;> omega
/-- Places below k have the class 0, or lie ahead of a. -/
def NoN (x a c : Int) (k : Nat) : Prop := ∀ j : Nat, j < k → ¬ (a ≤ (j : Int) ∧ cls x j c ≠ 0)
theorem nxp_first (x a c : Int) : IsFirst (fun k => a ≤ (k : Int) ∧ cls x k c ≠ 0) (nxp x a c) := by
  unfold nxp
  cases h : (List.range 8).find? (fun k : Nat => decide (a ≤ (k : Int) ∧ cls x k c ≠ 0)) with
  | none =>
    refine isFirst_none fun k hk q => ?_
    have := List.find?_eq_none.1 h k (by simpa using hk)
    exact this (by simpa using q)
  | some y =>
    obtain ⟨u, v, e, hy, hu⟩ := find_split h
    have hy' : a ≤ (y : Int) ∧ cls x y c ≠ 0 := by simpa using hy
    have hm : y ∈ List.range 8 := by rw [e]; simp
    have y8 : y < 8 := by simpa using hm
    refine ⟨by simp, by simp; omega, fun k hk q => ?_, fun _ => by simpa using hy'⟩
    have hk' : k < y := by simpa using hk
    have hkm : k ∈ List.range 8 := by simp; omega
    have hs := List.pairwise_lt_range (n := 8)
    rw [e] at hkm hs
    rcases List.mem_append.1 hkm with hku | hkv
    · have := hu k hku
      simp only [decide_eq_false_iff_not] at this
      exact this q
    · rcases List.mem_cons.1 hkv with rfl | hkv
      · omega
      · have := (List.pairwise_append.1 hs).2.1
        have := (List.pairwise_cons.1 this).1 k hkv
        omega
theorem nxp_bd (x a c : Int) : 0 ≤ nxp x a c ∧ nxp x a c ≤ 8 := ⟨(nxp_first x a c).1, (nxp_first x a c).2.1⟩
theorem nxp_here {x a c : Int} {k : Nat} (hk : k < 8) (hn : NoN x a c k) (ha : a ≤ (k : Int)) (h : cls x k c ≠ 0) : (k : Int) = nxp x a c :=
  IsFirst.unique (P := fun k => a ≤ (k : Int) ∧ cls x k c ≠ 0) ⟨by omega, by omega, fun j hj => hn j (by omega), fun _ => by simpa using ⟨ha, h⟩⟩ (nxp_first x a c)
theorem nxc_here {x a c : Int} {k : Nat} (hk : k < 8) (hn : NoN x a c k) (ha : a ≤ (k : Int)) (h : cls x k c ≠ 0) : cls x k c = nxc x a c := by
  have e := nxp_here hk hn ha h
  unfold nxc
  rw [← e, if_pos (by omega)]
theorem nxp_none {x a c : Int} {k : Nat} (h8 : 8 ≤ k) (hn : NoN x a c k) : (8 : Int) = nxp x a c :=
  IsFirst.unique (P := fun k => a ≤ (k : Int) ∧ cls x k c ≠ 0) (isFirst_none fun j hj => hn j (by omega)) (nxp_first x a c)
theorem nxc_none {x a c : Int} {k : Nat} (h8 : 8 ≤ k) (hn : NoN x a c k) : (0 : Int) = nxc x a c := by
  have e := nxp_none h8 hn
  unfold nxc
  rw [← e, if_neg (by omega)]
theorem noN_zero {x a c : Int} {k : Nat} (h : (k : Int) ≤ a ∨ k = 0) : NoN x a c k := fun j hj q => by omega
theorem noN_succ {x a c : Int} {k : Nat} (hn : NoN x a c k) (h : (k : Int) < a ∨ cls x k c = 0) : NoN x a c (k + 1) := by
  intro j hj q
  by_cases e : j = k
  · subst e
    rcases h with h | h
    · omega
    · exact q.2 h
  · exact hn j (by omega) q
theorem clm_yes {x i c : Int} (h : byt x i = 0) (c0 : 128 ≤ c) (c1 : c ≤ 255) : clm x i c = wth x i c := if_pos ⟨h, c0, c1⟩
theorem clm_no {x i c : Int} (h : ¬ (byt x i = 0 ∧ 128 ≤ c ∧ c ≤ 255)) : clm x i c = x := if_neg h
theorem clm_bd {x : Int} (i c : Int) (h0 : 0 ≤ x) (h1 : x ≤ 18446744073709551615) : 0 ≤ clm x i c ∧ clm x i c ≤ 18446744073709551615 := by
  unfold clm; split
  · exact wth_bd i c h0 h1
  · exact ⟨h0, h1⟩
theorem sea_bd {x : Int} (h0 : 0 ≤ x) (h1 : x ≤ 18446744073709551615) : 0 ≤ sea x ∧ sea x ≤ 18446744073709551615 := filL_bd 1 (plc x 0) h0 h1
/-- A byte that is not 0 stays. -/
theorem clm_keeps {x i c : Int} {k : Nat} (hk : k < 8) (h : ¬ byt x k = 0) : byt (clm x i c) k = byt x k := by
  unfold clm; split
  · next q =>
    rw [byt_wth hk, if_neg]
    rintro ⟨e, -⟩
    rw [← e] at q
    exact h q.1
  · rfl
theorem sea_byte {x : Int} {k : Nat} (hk : k < 8) : byt (sea x) k = if byt x k = 0 then 1 else byt x k := byt_fil (by omega) (by omega) hk
theorem sea_nozero {x : Int} {k : Nat} (hk : k < 8) : ¬ byt (sea x) k = 0 := by rw [sea_byte hk]; split <;> omega
theorem sea_twice (x : Int) : sea (sea x) = sea x := by
  have : plc (sea x) 0 = [] := List.eq_nil_iff_forall_not_mem.2 fun k hk => sea_nozero (mem_plc.1 hk).1 (mem_plc.1 hk).2
  show filL 1 (sea x) (plc (sea x) 0) = sea x
  rw [this]; rfl
theorem cld_hit {x : Int} {k : Nat} (h : 128 ≤ byt x k) : cld x (k + 1) = cld x k ++ [(k : Int)] := by simp [cld, List.range_succ, h]
theorem cld_miss {x : Int} {k : Nat} (h : ¬ 128 ≤ byt x k) : cld x (k + 1) = cld x k := by simp [cld, List.range_succ, h]
theorem cld_len (x : Int) (k : Nat) : (cld x k).length ≤ k := by
  have := List.length_filter_le (fun j : Nat => decide (128 ≤ byt x j)) (List.range k)
  simpa [cld] using this
theorem cld_sea (x : Int) : cld (sea x) 8 = cld x 8 := by
  unfold cld
  congr 1
  refine List.filter_congr fun k hk => ?_
  have hk8 : k < 8 := by simpa using hk
  rw [sea_byte hk8]
  by_cases h : byt x k = 0
  · rw [if_pos h, h]; rfl
  · rw [if_neg h]
theorem emp_le (x : Int) (k : Nat) : emp x k ≤ k := by
  induction k with
  | zero => exact Nat.le_refl _
  | succ k ih => unfold emp; split <;> omega
theorem emp_hit {x : Int} {k : Nat} (h : byt x k = 0) : emp x (k + 1) = emp x k + 1 := by show emp x k + _ = _; rw [if_pos h]
theorem emp_miss {x : Int} {k : Nat} (h : ¬ byt x k = 0) : emp x (k + 1) = emp x k := by show emp x k + _ = _; rw [if_neg h]; rfl
theorem emp_some {x : Int} {k : Nat} (h : ¬ emp x k = 0) : ∃ j, j < k ∧ byt x j = 0 := by
  induction k with
  | zero => exact absurd rfl h
  | succ k ih =>
    by_cases e : byt x k = 0
    · exact ⟨k, by omega, e⟩
    · rw [emp_miss e] at h
      obtain ⟨j, hj, q⟩ := ih h
      exact ⟨j, by omega, q⟩
/-- Of a sealed word: no class but 2 (and 0), for who has no claim. -/
theorem sea_class {x : Int} {k : Nat} (hk : k < 8) : cls (sea x) k 0 = 2 ∨ cls (sea x) k 0 = 0 := by
  have h := sea_nozero (x := x) hk
  by_cases h1 : byt (sea x) k = 1
  · exact .inl (cls_shut 0 h1)
  · exact .inr (cls_other h h1 (by omega))
theorem sea_next {x : Int} (h : ¬ emp x 8 = 0) : nxp (sea x) 0 0 < 8 ∧ nxc (sea x) 0 0 = 2 := by
  obtain ⟨j, hj, e⟩ := emp_some h
  have hf := nxp_first (sea x) 0 0
  have hb := nxp_bd (sea x) 0 0
  have hc : cls (sea x) j 0 = 2 := cls_shut 0 (by rw [sea_byte hj, if_pos e])
  have hlt : nxp (sea x) 0 0 < 8 := by
    refine Decidable.byContradiction fun q => ?_
    exact hf.2.2.1 j (by omega) ⟨by omega, by rw [hc]; decide⟩
  refine ⟨hlt, ?_⟩
  have hn := hf.2.2.2 hlt
  obtain ⟨m, hm⟩ := Int.eq_ofNat_of_zero_le hb.1
  unfold nxc
  rw [if_pos hlt]
  rw [hm] at hn hlt ⊢
  simp only [Int.toNat_natCast] at hn
  rcases sea_class (x := x) (k := m) (by omega) with q | q
  · exact q
  · exact absurd q hn.2
end Go.Proofs.YtknefjigdlbacaaGreatDoor.Ct
namespace Go.Proofs.YtknefjigdlbacaaGreatDoor.Rt
/-- 0 + 1 + .. + i. -/
def tri : Nat → Nat
  | 0 => 0
  | i + 1 => tri i + (i + 1)
theorem tri_two (i : Nat) : 2 * tri i = i * (i + 1) := by
  induction i with
  | zero => rfl
  | succ i ih => rw [tri, Nat.mul_add, ih, ← Nat.add_mul]; rw [Nat.mul_comm]
theorem tri_half (i : Nat) : i * (i + 1) / 2 = tri i := by have := tri_two i; omega
theorem tri_mono {i j : Nat} (h : i ≤ j) : tri i ≤ tri j := by
  induction h with
  | refl => exact Nat.le_refl _
  | step _ ih => rw [tri]; omega
theorem tri_le {i : Nat} (h : i < 512) : tri i ≤ 130816 := Nat.le_trans (tri_mono (Nat.le_of_lt_succ h)) (by have := tri_two 511; omega)
/-- How many groups there are of a log. -/
def grp (log : Int) : Nat := if 0 ≤ log ∧ log ≤ 9 then 2 ^ log.toNat else 0
theorem grp_in {log : Int} (h0 : 0 ≤ log) (h1 : log ≤ 9) : grp log = 2 ^ log.toNat := by unfold grp; rw [if_pos ⟨h0, h1⟩]
theorem grp_out {log : Int} (h : log < 0 ∨ 9 < log) : grp log = 0 := by unfold grp; rw [if_neg (by omega)]
theorem ten {log : Int} (h0 : 0 ≤ log) (h1 : log ≤ 9) : log = 0 ∨ log = 1 ∨ log = 2 ∨ log = 3 ∨ log = 4 ∨ log = 5 ∨ log = 6 ∨ log = 7 ∨ log = 8 ∨ log = 9 := by omega
theorem grp_le (log : Int) : grp log ≤ 512 := by
  by_cases h : 0 ≤ log ∧ log ≤ 9
  · rcases ten h.1 h.2 with rfl | rfl | rfl | rfl | rfl | rfl | rfl | rfl | rfl | rfl <;> decide
  · unfold grp; rw [if_neg h]; omega
theorem grp_pos {log : Int} (h0 : 0 ≤ log) (h1 : log ≤ 9) : 1 ≤ grp log := by
  rw [grp_in h0 h1]; exact Nat.one_le_two_pow
/-- The i-th group of n from s on. -/
def gat (s n i : Nat) : Nat := (s + tri i) % n
theorem gat_lt {s n i : Nat} (h : 0 < n) : gat s n i < n := Nat.mod_lt _ h
/-- The first k groups. -/
def wayTo (s n k : Nat) : List Nat := (List.range k).map (gat s n)
theorem wayTo_len (s n k : Nat) : (wayTo s n k).length = k := by simp [wayTo]
theorem wayTo_snoc (s n k : Nat) : wayTo s n (k + 1) = wayTo s n k ++ [gat s n k] := by simp [wayTo, List.range_succ]
theorem wayTo_get {s n k i : Nat} (h : i < (wayTo s n k).length) : (wayTo s n k)[i] = gat s n i := by simp [wayTo]
theorem wayTo_pre {s n j k : Nat} (h : j ≤ k) : wayTo s n j <+: wayTo s n k := by
  induction h with
  | refl => exact List.prefix_refl _
  | step _ ih => rw [wayTo_snoc]; exact ih.trans (List.prefix_append _ _)
theorem pre_wayTo {s n k : Nat} {l : List Nat} (h : l <+: wayTo s n k) : l = wayTo s n l.length := by
  have hl := h.length_le
  rw [wayTo_len] at hl
  exact (List.prefix_of_prefix_length_le h (wayTo_pre hl) (by rw [wayTo_len]; exact Nat.le_refl _)).eq_of_length (by rw [wayTo_len])
/-- All groups in their order. -/
def way (s n : Nat) : List Nat := wayTo s n n
theorem way_len (s n : Nat) : (way s n).length = n := wayTo_len s n n
/-- Where the i-th group lies, of a hash and a log; -1, if there is none. -/
def gp (h : Nat) (log i : Int) : Int := if 0 ≤ i ∧ i < grp log then ((gat (h / 128) (grp log) i.toNat : Nat) : Int) else -1
theorem gp_out {h : Nat} {log i : Int} (hi : i < 0 ∨ (grp log : Int) ≤ i) : gp h log i = -1 := by unfold gp; rw [if_neg (by omega)]
theorem gp_in {h : Nat} {log : Int} {i : Nat} (hi : i < grp log) : gp h log i = ((gat (h / 128) (grp log) i : Nat) : Int) := by
  unfold gp; rw [if_pos (by omega)]; simp
theorem last_gat {s n j : Nat} : (wayTo s n (j + 1)).getLastD 0 = gat s n j := by rw [wayTo_snoc]; simp
theorem gp_last {h : Nat} {log i : Int} {pre : List Nat} (hp : pre <+: way (h / 128) (grp log)) (hl : (pre.length : Int) = i + 1) (hi : 0 ≤ i) : ((pre.getLastD 0 : Nat) : Int) = gp h log i := by
  obtain ⟨j, rfl⟩ := Int.eq_ofNat_of_zero_le hi
  have hlen := hp.length_le
  rw [way_len] at hlen
  have hj : pre.length = j + 1 := by omega
  rw [gp_in (by omega), pre_wayTo hp, hj, last_gat]
theorem odd_dvd {m a b : Nat} (ha : a % 2 = 1) (h : 2 ^ m ∣ a * b) : 2 ^ m ∣ b := by
  induction m generalizing b with
  | zero => exact ⟨b, by omega⟩
  | succ m ih =>
    have hb : b % 2 = 0 := by
      have h2 : 2 ∣ a * b := Nat.dvd_trans ⟨2 ^ m, by rw [Nat.pow_succ, Nat.mul_comm]⟩ h
      have h3 := Nat.mod_eq_zero_of_dvd h2
      rw [Nat.mul_mod, ha] at h3
      omega
    obtain ⟨c, rfl⟩ : ∃ c, b = 2 * c := ⟨b / 2, by omega⟩
    have h4 : 2 ^ m ∣ a * c := by
      obtain ⟨d, hd⟩ := h
      refine ⟨d, ?_⟩
      have : 2 * (a * c) = 2 * (2 ^ m * d) := by
        rw [Nat.pow_succ] at hd
        calc 2 * (a * c) = a * (2 * c) := by rw [Nat.mul_left_comm]
          _ = 2 ^ m * 2 * d := hd
          _ = 2 * (2 ^ m * d) := by rw [Nat.mul_comm (2 ^ m) 2, Nat.mul_assoc]
      omega
    obtain ⟨d, hd⟩ := ih h4
    exact ⟨d, by rw [hd, Nat.pow_succ, Nat.mul_comm (2 ^ m) 2, Nat.mul_assoc]⟩
theorem gat_le {s k i j : Nat} (hij : i ≤ j) (hj : j < 2 ^ k) (h : gat s (2 ^ k) i = gat s (2 ^ k) j) : i = j := by
  have ht := tri_mono hij
  have hd : 2 ^ k ∣ tri j - tri i := by
    unfold gat at h
    have h2 := Nat.sub_mod_eq_zero_of_mod_eq h.symm
    have h3 : s + tri j - (s + tri i) = tri j - tri i := by omega
    rw [h3] at h2
    exact Nat.dvd_of_mod_eq_zero h2
  have hp : (j - i) * (i + j + 1) = 2 * (tri j - tri i) := by
    obtain ⟨a, rfl⟩ := Nat.exists_eq_add_of_le hij
    have e1 := tri_two i
    have e2 := tri_two (i + a)
    rw [Nat.mul_sub, e1, e2]
    have e3 : i + a - i = a := by omega
    rw [e3]
    have e4 : (i + a) * (i + a + 1) = i * (i + 1) + a * (i + (i + a) + 1) := by
      simp only [Nat.add_mul, Nat.mul_add, Nat.mul_one]
      have := Nat.mul_comm a i
      omega
    omega
  have hd2 : 2 ^ (k + 1) ∣ (j - i) * (i + j + 1) := by
    rw [hp, Nat.pow_succ, Nat.mul_comm (2 ^ k) 2]
    exact Nat.mul_dvd_mul_left 2 hd
  have hpw : 2 ^ (k + 1) = 2 * 2 ^ k := by rw [Nat.pow_succ, Nat.mul_comm]
  by_cases hodd : (j - i) % 2 = 1
  · have h5 := Nat.le_of_dvd (by omega) (odd_dvd hodd hd2)
    omega
  · have hb : (i + j + 1) % 2 = 1 := by omega
    rw [Nat.mul_comm] at hd2
    have h6 := odd_dvd hb hd2
    rcases Nat.eq_zero_or_pos (j - i) with h7 | h7
    · omega
    · have := Nat.le_of_dvd h7 h6
      omega
theorem gat_inj {s k i j : Nat} (hi : i < 2 ^ k) (hj : j < 2 ^ k) (h : gat s (2 ^ k) i = gat s (2 ^ k) j) : i = j := by
  rcases Nat.le_total i j with hij | hij
  · exact gat_le hij hj h
  · exact (gat_le hij hi h.symm).symm
theorem gat_new {log : Int} {s i : Nat} (h0 : 0 ≤ log) (h1 : log ≤ 9) (hi : i < grp log) : gat s (grp log) i ∉ wayTo s (grp log) i := by
  rw [grp_in h0 h1] at hi ⊢
  intro hm
  simp only [wayTo, List.mem_map, List.mem_range] at hm
  obtain ⟨j, hj, he⟩ := hm
  have := gat_inj (Nat.lt_trans hj hi) hi he
  omega
end Go.Proofs.YtknefjigdlbacaaGreatDoor.Rt
namespace Go.Proofs.YtknefjigdlbacaaGreatDoor.Tb
/-- How many groups there are of a log. -/
def grp (log : Int) : Nat := if 0 ≤ log ∧ log ≤ 9 then 2 ^ log.toNat else 0
theorem grp_in {log : Int} (h0 : 0 ≤ log) (h1 : log ≤ 9) : grp log = 2 ^ log.toNat := by unfold grp; rw [if_pos ⟨h0, h1⟩]
theorem grp_out {log : Int} (h : log < 0 ∨ 9 < log) : grp log = 0 := by unfold grp; rw [if_neg (by omega)]
theorem ten {log : Int} (h0 : 0 ≤ log) (h1 : log ≤ 9) : log = 0 ∨ log = 1 ∨ log = 2 ∨ log = 3 ∨ log = 4 ∨ log = 5 ∨ log = 6 ∨ log = 7 ∨ log = 8 ∨ log = 9 := by omega
theorem grp_le (log : Int) : grp log ≤ 512 := by
  by_cases h : 0 ≤ log ∧ log ≤ 9
  · rcases ten h.1 h.2 with rfl | rfl | rfl | rfl | rfl | rfl | rfl | rfl | rfl | rfl <;> decide
  · unfold grp; rw [if_neg h]; omega
theorem grp_pos {log : Int} (h0 : 0 ≤ log) (h1 : log ≤ 9) : 1 ≤ grp log := by
  rw [grp_in h0 h1]; exact Nat.one_le_two_pow
/-- What cell c is, of n groups: its part, group and slot. -/
def plc (n : Nat) (c : Int) : Int × Int × Int :=
  if n = 0 ∨ c < 0 ∨ 7 + 9 * (n : Int) ≤ c then (0, 0, 0)
  else if c < 7 then (1, 0, 0)
  else if c < 7 + (n : Int) then (2, c - 7, 0)
  else (3, (c - 7 - (n : Int)) / 8, (c - 7 - (n : Int)) % 8)
theorem plc_none {n : Nat} {c : Int} (h : n = 0 ∨ c < 0 ∨ 7 + 9 * (n : Int) ≤ c) : plc n c = (0, 0, 0) := if_pos h
theorem plc_head {n : Nat} {c : Int} (hn : 1 ≤ n) (h0 : 0 ≤ c) (h1 : c < 7) : plc n c = (1, 0, 0) := by
  unfold plc; rw [if_neg (by omega), if_pos h1]
theorem plc_group {n : Nat} {g : Int} (h0 : 0 ≤ g) (h1 : g < n) : plc n (7 + g) = (2, g, 0) := by
  unfold plc; rw [if_neg (by omega), if_neg (by omega), if_pos (by omega)]; simp; omega
theorem plc_slot {n : Nat} {g s : Int} (h0 : 0 ≤ g) (h1 : g < n) (s0 : 0 ≤ s) (s1 : s < 8) : plc n (7 + n + 8 * g + s) = (3, g, s) := by
  unfold plc; rw [if_neg (by omega), if_neg (by omega), if_neg (by omega)]
  simp only [Prod.mk.injEq, true_and]
  omega
theorem plc_cases (n : Nat) (c : Int) : (n = 0 ∨ c < 0 ∨ 7 + 9 * (n : Int) ≤ c) ∨ (1 ≤ n ∧ 0 ≤ c ∧ c < 7) ∨ (∃ g : Int, 0 ≤ g ∧ g < n ∧ c = 7 + g) ∨ (∃ g s : Int, 0 ≤ g ∧ g < n ∧ 0 ≤ s ∧ s < 8 ∧ c = 7 + n + 8 * g + s) := by
  by_cases h : n = 0 ∨ c < 0 ∨ 7 + 9 * (n : Int) ≤ c
  · exact .inl h
  · by_cases h1 : c < 7
    · exact .inr (.inl ⟨by omega, by omega, h1⟩)
    · by_cases h2 : c < 7 + (n : Int)
      · exact .inr (.inr (.inl ⟨c - 7, by omega, by omega, by omega⟩))
      · exact .inr (.inr (.inr ⟨(c - 7 - n) / 8, (c - 7 - n) % 8, by omega, by omega, by omega, by omega, by omega⟩))
theorem plc_ways (n : Nat) (c : Int) : (n = 0 ∧ plc n c = (0, 0, 0)) ∨ (n ≠ 0 ∧ c < 0 ∧ plc n c = (0, 0, 0)) ∨ (n ≠ 0 ∧ 0 ≤ c ∧ c < 7 ∧ plc n c = (1, 0, 0)) ∨ (n ≠ 0 ∧ 7 ≤ c ∧ c - 7 < (n : Int) ∧ plc n c = (2, c - 7, 0)) ∨ (n ≠ 0 ∧ 7 ≤ c ∧ (n : Int) ≤ c - 7 ∧ c - 7 - (n : Int) < (n : Int) * 8 ∧ plc n c = (3, (c - 7 - (n : Int)) / 8, (c - 7 - (n : Int)) % 8)) ∨ (n ≠ 0 ∧ 7 ≤ c ∧ (n : Int) ≤ c - 7 ∧ (n : Int) * 8 ≤ c - 7 - (n : Int) ∧ plc n c = (0, 0, 0)) := by
  by_cases a : n = 0
  · exact .inl ⟨a, plc_none (.inl a)⟩
  by_cases b : c < 0
  · exact .inr (.inl ⟨a, b, plc_none (by omega)⟩)
  by_cases d : c < 7
  · exact .inr (.inr (.inl ⟨a, by omega, d, plc_head (by omega) (by omega) d⟩))
  by_cases f : c - 7 < (n : Int)
  · refine .inr (.inr (.inr (.inl ⟨a, by omega, f, ?_⟩)))
    unfold plc; rw [if_neg (by omega), if_neg (by omega), if_pos (by omega)]
  by_cases g : c - 7 - (n : Int) < (n : Int) * 8
  · refine .inr (.inr (.inr (.inr (.inl ⟨a, by omega, by omega, g, ?_⟩))))
    unfold plc; rw [if_neg (by omega), if_neg (by omega), if_neg (by omega)]
  · exact .inr (.inr (.inr (.inr (.inr ⟨a, by omega, by omega, by omega, plc_none (by omega)⟩))))
/-- The cell of a group's control word. -/
def gc (n : Nat) (g : Int) : Int := if 0 ≤ g ∧ g < n then 7 + g else -1
/-- The cell of a slot of it. -/
def sc (n : Nat) (g s : Int) : Int := if 0 ≤ g ∧ g < n ∧ 0 ≤ s ∧ s < 8 then 7 + n + 8 * g + s else -1
theorem gc_in {n : Nat} {g : Int} (h0 : 0 ≤ g) (h1 : g < n) : gc n g = 7 + g := if_pos ⟨h0, h1⟩
theorem gc_out {n : Nat} {g : Int} (h : g < 0 ∨ (n : Int) ≤ g) : gc n g = -1 := if_neg (by omega)
theorem sc_in {n : Nat} {g s : Int} (h0 : 0 ≤ g) (h1 : g < n) (s0 : 0 ≤ s) (s1 : s < 8) : sc n g s = 7 + n + 8 * g + s := if_pos ⟨h0, h1, s0, s1⟩
theorem sc_out {n : Nat} {g s : Int} (h : g < 0 ∨ (n : Int) ≤ g ∨ s < 0 ∨ 8 ≤ s) : sc n g s = -1 := if_neg (by omega)
/-- What is told of a cell that should be a place. -/
def thr (n : Nat) (c : Int) (p : Int × Int × Int) : Int := if plc n c = p then c else -1
theorem thr_group {n : Nat} {c g : Int} (h : c = (7 + g + 9223372036854775808) % 18446744073709551616 - 9223372036854775808) (hn : n ≤ 512) (g0 : -9223372036854775808 ≤ g) (g1 : g ≤ 9223372036854775807) : thr n c (2, g, 0) = gc n g := by
  unfold thr
  rcases plc_cases n c with k | ⟨k0, k1, k2⟩ | ⟨g', k0, k1, rfl⟩ | ⟨g', s', k0, k1, k2, k3, rfl⟩
  · rw [plc_none k, if_neg (by simp), gc_out (by omega)]
  · rw [plc_head k0 k1 k2, if_neg (by simp), gc_out (by omega)]
  · rw [plc_group k0 k1]
    obtain rfl : g' = g := by omega
    rw [if_pos rfl, gc_in k0 k1]
  · rw [plc_slot k0 k1 k2 k3, if_neg (by simp), gc_out (by omega)]
theorem thr_slot {n : Nat} {c g s : Int} (h : c = (7 + (n : Int) + 8 * g + s + 9223372036854775808) % 18446744073709551616 - 9223372036854775808) (hn : n ≤ 512) : thr n c (3, g, s) = sc n g s := by
  unfold thr
  by_cases k : 0 ≤ g ∧ g < n ∧ 0 ≤ s ∧ s < 8
  · obtain ⟨k0, k1, k2, k3⟩ := k
    obtain rfl : c = 7 + n + 8 * g + s := by omega
    rw [plc_slot k0 k1 k2 k3, if_pos rfl, sc_in k0 k1 k2 k3]
  · rw [sc_out (by omega), if_neg]
    intro e
    rcases plc_cases n c with k' | ⟨k0, k1, k2⟩ | ⟨g', k0, k1, rfl⟩ | ⟨g', s', k0, k1, k2, k3, rfl⟩
    · rw [plc_none k'] at e; simp at e
    · rw [plc_head k0 k1 k2] at e; simp at e
    · rw [plc_group k0 k1] at e; simp at e
    · rw [plc_slot k0 k1 k2 k3] at e
      simp only [Prod.mk.injEq, true_and] at e
      omega
/-- How many cells. -/
def size (n : Nat) : Int := if n = 0 then 0 else 7 + 9 * n
theorem size_pos {n : Nat} (h : 1 ≤ n) : size n = 7 + 9 * n := if_neg (by omega)
/-- The stripe. -/
def strp (t : Int) : Int := 3 + t % 4
end Go.Proofs.YtknefjigdlbacaaGreatDoor.Tb
