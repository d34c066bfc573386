/-
  Plain mathematics of control words: no program in it. By an AI agent.
-/
import Derived.Test.YtmdaekiogcecmaaLaneMath
namespace Go.Proofs.Ytmdaekiogcecmaa.Ct
open Go Ln
/-- Which class the byte i of x is of, to who has the claim c. -/
def cls (x i c : Int) : Int := if byt x i = 0 then 1 else if byt x i = 1 then 2 else if byt x i = c ∧ 128 ≤ c ∧ c ≤ 255 then 3 else 0
/-- The first place from a on whose class is not 0; 8, if there is none. -/
def nxp (x a c : Int) : Int := match (List.range 8).find? (fun k : Nat => decide (a ≤ (k : Int) ∧ cls x k c ≠ 0)) with | some k => k | none => 8
def nxc (x a c : Int) : Int := if nxp x a c < 8 then cls x (nxp x a c) c else 0
def clm (x i c : Int) : Int := if byt x i = 0 ∧ 128 ≤ c ∧ c ≤ 255 then wth x i c else x
def sea (x : Int) : Int := fil x 0 1
/-- The places below k of the bytes that are claims. -/
def cld (x : Int) (k : Nat) : List Int := ((List.range k).filter fun j : Nat => decide (128 ≤ byt x j)).map fun j : Nat => (j : Int)
/-- How many of the places below k are empty. -/
def emp (x : Int) : Nat → Nat
  | 0 => 0
  | k + 1 => emp x k + if byt x k = 0 then 1 else 0
theorem cls_free {x i : Int} (c : Int) (h : byt x i = 0) : cls x i c = 1 := if_pos h
theorem cls_shut {x i : Int} (c : Int) (h : byt x i = 1) : cls x i c = 2 := by unfold cls; rw [if_neg (by omega), if_pos h]
theorem cls_own {x i c : Int} (h0 : ¬ byt x i = 0) (h1 : ¬ byt x i = 1) (h : byt x i = c) (c0 : 128 ≤ c) (c1 : c ≤ 255) : cls x i c = 3 := by unfold cls; rw [if_neg h0, if_neg h1, if_pos ⟨h, c0, c1⟩]
theorem cls_other {x i c : Int} (h0 : ¬ byt x i = 0) (h1 : ¬ byt x i = 1) (h : ¬ (byt x i = c ∧ 128 ≤ c ∧ c ≤ 255)) : cls x i c = 0 := by unfold cls; rw [if_neg h0, if_neg h1, if_neg h]
theorem cls_bd (x i c : Int) : 0 ≤ cls x i c ∧ cls x i c ≤ 3 := by unfold cls; split <;> (try split) <;> (try split) <;> omega
/-- Places below k have the class 0, or lie ahead of a. -/
def NoN (x a c : Int) (k : Nat) : Prop := ∀ j : Nat, j < k → ¬ (a ≤ (j : Int) ∧ cls x j c ≠ 0)
theorem nxp_first (x a c : Int) : IsFirst (fun k => a ≤ (k : Int) ∧ cls x k c ≠ 0) (nxp x a c) := by
  unfold nxp
  cases h : (List.range 8).find? (fun k : Nat => decide (a ≤ (k : Int) ∧ cls x k c ≠ 0)) with
  | none =>
    refine isFirst_none fun k hk q => ?_
    have := List.find?_eq_none.1 h k (by simpa using hk)
    exact this (by simpa using q)
  | some y =>
    obtain ⟨u, v, e, hy, hu⟩ := find_split h
    have hy' : a ≤ (y : Int) ∧ cls x y c ≠ 0 := by simpa using hy
    have hm : y ∈ List.range 8 := by rw [e]; simp
    have y8 : y < 8 := by simpa using hm
    refine ⟨by simp, by simp; omega, fun k hk q => ?_, fun _ => by simpa using hy'⟩
    have hk' : k < y := by simpa using hk
    have hkm : k ∈ List.range 8 := by simp; omega
    have hs := List.pairwise_lt_range (n := 8)
    rw [e] at hkm hs
    rcases List.mem_append.1 hkm with hku | hkv
    · have := hu k hku
      simp only [decide_eq_false_iff_not] at this
      exact this q
    · rcases List.mem_cons.1 hkv with rfl | hkv
      · omega
      · have := (List.pairwise_append.1 hs).2.1
        have := (List.pairwise_cons.1 this).1 k hkv
        omega
theorem nxp_bd (x a c : Int) : 0 ≤ nxp x a c ∧ nxp x a c ≤ 8 := ⟨(nxp_first x a c).1, (nxp_first x a c).2.1⟩
theorem nxp_here {x a c : Int} {k : Nat} (hk : k < 8) (hn : NoN x a c k) (ha : a ≤ (k : Int)) (h : cls x k c ≠ 0) : (k : Int) = nxp x a c :=
  IsFirst.unique (P := fun k => a ≤ (k : Int) ∧ cls x k c ≠ 0) ⟨by omega, by omega, fun j hj => hn j (by omega), fun _ => by simpa using ⟨ha, h⟩⟩ (nxp_first x a c)
theorem nxc_here {x a c : Int} {k : Nat} (hk : k < 8) (hn : NoN x a c k) (ha : a ≤ (k : Int)) (h : cls x k c ≠ 0) : cls x k c = nxc x a c := by
  have e := nxp_here hk hn ha h
  unfold nxc
  rw [← e, if_pos (by omega)]
theorem nxp_none {x a c : Int} {k : Nat} (h8 : 8 ≤ k) (hn : NoN x a c k) : (8 : Int) = nxp x a c :=
  IsFirst.unique (P := fun k => a ≤ (k : Int) ∧ cls x k c ≠ 0) (isFirst_none fun j hj => hn j (by omega)) (nxp_first x a c)
theorem nxc_none {x a c : Int} {k : Nat} (h8 : 8 ≤ k) (hn : NoN x a c k) : (0 : Int) = nxc x a c := by
  have e := nxp_none h8 hn
  unfold nxc
  rw [← e, if_neg (by omega)]
theorem noN_zero {x a c : Int} {k : Nat} (h : (k : Int) ≤ a ∨ k = 0) : NoN x a c k := fun j hj q => by omega
theorem noN_succ {x a c : Int} {k : Nat} (hn : NoN x a c k) (h : (k : Int) < a ∨ cls x k c = 0) : NoN x a c (k + 1) := by
  intro j hj q
  by_cases e : j = k
  · subst e
    rcases h with h | h
    · omega
    · exact q.2 h
  · exact hn j (by omega) q
theorem clm_yes {x i c : Int} (h : byt x i = 0) (c0 : 128 ≤ c) (c1 : c ≤ 255) : clm x i c = wth x i c := if_pos ⟨h, c0, c1⟩
theorem clm_no {x i c : Int} (h : ¬ (byt x i = 0 ∧ 128 ≤ c ∧ c ≤ 255)) : clm x i c = x := if_neg h
theorem clm_bd {x : Int} (i c : Int) (h0 : 0 ≤ x) (h1 : x ≤ 18446744073709551615) : 0 ≤ clm x i c ∧ clm x i c ≤ 18446744073709551615 := by
  unfold clm; split
  · exact wth_bd i c h0 h1
  · exact ⟨h0, h1⟩
theorem sea_bd {x : Int} (h0 : 0 ≤ x) (h1 : x ≤ 18446744073709551615) : 0 ≤ sea x ∧ sea x ≤ 18446744073709551615 := filL_bd 1 (plc x 0) h0 h1
/-- A byte that is not 0 stays. -/
theorem clm_keeps {x i c : Int} {k : Nat} (hk : k < 8) (h : ¬ byt x k = 0) : byt (clm x i c) k = byt x k := by
  unfold clm; split
  · next q =>
    rw [byt_wth hk, if_neg]
    rintro ⟨e, -⟩
    rw [← e] at q
    exact h q.1
  · rfl
theorem sea_byte {x : Int} {k : Nat} (hk : k < 8) : byt (sea x) k = if byt x k = 0 then 1 else byt x k := byt_fil (by omega) (by omega) hk
theorem sea_nozero {x : Int} {k : Nat} (hk : k < 8) : ¬ byt (sea x) k = 0 := by rw [sea_byte hk]; split <;> omega
theorem sea_twice (x : Int) : sea (sea x) = sea x := by
  have : plc (sea x) 0 = [] := List.eq_nil_iff_forall_not_mem.2 fun k hk => sea_nozero (mem_plc.1 hk).1 (mem_plc.1 hk).2
  show filL 1 (sea x) (plc (sea x) 0) = sea x
  rw [this]; rfl
theorem cld_hit {x : Int} {k : Nat} (h : 128 ≤ byt x k) : cld x (k + 1) = cld x k ++ [(k : Int)] := by simp [cld, List.range_succ, h]
theorem cld_miss {x : Int} {k : Nat} (h : ¬ 128 ≤ byt x k) : cld x (k + 1) = cld x k := by simp [cld, List.range_succ, h]
theorem cld_len (x : Int) (k : Nat) : (cld x k).length ≤ k := by
  have := List.length_filter_le (fun j : Nat => decide (128 ≤ byt x j)) (List.range k)
  simpa [cld] using this
theorem cld_sea (x : Int) : cld (sea x) 8 = cld x 8 := by
  unfold cld
  congr 1
  refine List.filter_congr fun k hk => ?_
  have hk8 : k < 8 := by simpa using hk
  rw [sea_byte hk8]
  by_cases h : byt x k = 0
  · rw [if_pos h, h]; rfl
  · rw [if_neg h]
theorem emp_le (x : Int) (k : Nat) : emp x k ≤ k := by
  induction k with
  | zero => exact Nat.le_refl _
  | succ k ih => unfold emp; split <;> omega
theorem emp_hit {x : Int} {k : Nat} (h : byt x k = 0) : emp x (k + 1) = emp x k + 1 := by show emp x k + _ = _; rw [if_pos h]
theorem emp_miss {x : Int} {k : Nat} (h : ¬ byt x k = 0) : emp x (k + 1) = emp x k := by show emp x k + _ = _; rw [if_neg h]; rfl
theorem emp_some {x : Int} {k : Nat} (h : ¬ emp x k = 0) : ∃ j, j < k ∧ byt x j = 0 := by
  induction k with
  | zero => exact absurd rfl h
  | succ k ih =>
    by_cases e : byt x k = 0
    · exact ⟨k, by omega, e⟩
    · rw [emp_miss e] at h
      obtain ⟨j, hj, q⟩ := ih h
      exact ⟨j, by omega, q⟩
/-- Of a sealed word: no class but 2 (and 0), for who has no claim. -/
theorem sea_class {x : Int} {k : Nat} (hk : k < 8) : cls (sea x) k 0 = 2 ∨ cls (sea x) k 0 = 0 := by
  have h := sea_nozero (x := x) hk
  by_cases h1 : byt (sea x) k = 1
  · exact .inl (cls_shut 0 h1)
  · exact .inr (cls_other h h1 (by omega))
theorem sea_next {x : Int} (h : ¬ emp x 8 = 0) : nxp (sea x) 0 0 < 8 ∧ nxc (sea x) 0 0 = 2 := by
  obtain ⟨j, hj, e⟩ := emp_some h
  have hf := nxp_first (sea x) 0 0
  have hb := nxp_bd (sea x) 0 0
  have hc : cls (sea x) j 0 = 2 := cls_shut 0 (by rw [sea_byte hj, if_pos e])
  have hlt : nxp (sea x) 0 0 < 8 := by
    refine Decidable.byContradiction fun q => ?_
    exact hf.2.2.1 j (by omega) ⟨by omega, by rw [hc]; decide⟩
  refine ⟨hlt, ?_⟩
  have hn := hf.2.2.2 hlt
  obtain ⟨m, hm⟩ := Int.eq_ofNat_of_zero_le hb.1
  unfold nxc
  rw [if_pos hlt]
  rw [hm] at hn hlt ⊢
  simp only [Int.toNat_natCast] at hn
  rcases sea_class (x := x) (k := m) (by omega) with q | q
  · exact q
  · exact absurd q hn.2
end Go.Proofs.Ytmdaekiogcecmaa.Ct
