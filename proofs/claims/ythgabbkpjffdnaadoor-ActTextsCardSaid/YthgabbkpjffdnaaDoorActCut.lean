/-
  A text cut at its first blank. By an AI agent.
-/
import Derived.Test.YthgabbkpjffdnaaDoorActFields
import Derived.Test.YthgabbkpjffdnaaDoorShelf
set_option linter.unusedSimpArgs false
set_option linter.unusedVariables false
namespace Go.Proofs.YthgabbkpjffdnaaDoor
open Go.RowKit
/-- What is ahead of the first blank, what is behind it, and whether there is one. -/
def cutS : List UInt8 → List UInt8 × List UInt8 × Bool
  | [] => ([], [], false)
  | a :: r => if a = 32 then ([], r, true) else (a :: (cutS r).1, (cutS r).2.1, (cutS r).2.2)
theorem cutS_no : ∀ {l : List UInt8}, Lib.indexByte l 32 < 0 → cutS l = (l, [], false)
  | [], _ => rfl
  | a :: r, h => by
    unfold Lib.indexByte at h
    unfold cutS
    have hg := Lib.indexByte_ge r 32
    by_cases ha : a = 32
    · simp [ha] at h
    · rw [if_neg ha]
      simp only [beq_iff_eq, ha, if_false] at h
      by_cases hr : Lib.indexByte r 32 = -1
      · rw [cutS_no (by omega)]
      · simp only [hr, if_false] at h
        exact absurd h (by omega)
theorem cutS_at : ∀ {l : List UInt8} {i : Nat}, Lib.indexByte l 32 = (i : Int) → cutS l = (l.take i, l.drop (i + 1), true) ∧ i < l.length
  | [], i, h => by simp [Lib.indexByte] at h <;> omega
  | a :: r, i, h => by
    unfold Lib.indexByte at h
    unfold cutS
    by_cases ha : a = 32
    · simp [ha] at h
      obtain rfl : i = 0 := by omega
      subst ha
      exact ⟨rfl, by simp⟩
    · rw [if_neg ha]
      simp only [beq_iff_eq, ha, if_false] at h
      by_cases hr : Lib.indexByte r 32 = -1
      · simp [hr] at h <;> omega
      · simp only [hr, if_false] at h
        obtain ⟨j, rfl⟩ : ∃ j, i = j + 1 := ⟨i - 1, by have := Lib.indexByte_ge r 32; omega⟩
        obtain ⟨e, hl⟩ := cutS_at (l := r) (i := j) (by omega)
        rw [e]
        exact ⟨by simp, by simp; omega⟩
set_option maxRecDepth 100000 in
set_option maxHeartbeats 4000000 in
theorem lcut_no (s : ByteArray) (v : Int) (hv : v < 0) (w : World) (K : ∀ w, Calls Tryd.prog 69 #[.string s, .string ⟨#[32]⟩] w (Same (.int .i64 v) w)) :
    Calls Tryd.prog 59 #[.string s, .string ⟨#[32]⟩] w (Same (.tuple #[.string s, .string ⟨#[]⟩, .bool false]) w) := by
  have HK := Lib.hid K; clear K
  have hv' : ¬ 0 ≤ v := by omega
  go_enter Tryd.func59, Tryd.ntmps59
  go_wp2_with fail
  with_reducible refine (HK.out _).mono ?_
  rintro e w1 ⟨rfl, rfl⟩
  go_wp2
  exact bodyPost_ret (v := .tuple #[.string s, .string ⟨#[]⟩, .bool false]) (by simp [results, Tryd.results59, go_sem]) rfl ⟨rfl, rfl⟩
set_option maxRecDepth 100000 in
set_option maxHeartbeats 4000000 in
theorem lcut_at (s : ByteArray) (i : Nat) (hi : i < s.size) (hs : s.size ≤ 1000000000000) (w : World) (K : ∀ w, Calls Tryd.prog 69 #[.string s, .string ⟨#[32]⟩] w (Same (.int .i64 (i : Int)) w)) :
    Calls Tryd.prog 59 #[.string s, .string ⟨#[32]⟩] w (Gives (.tuple #[.string (s.extract 0 i), .string (s.extract (i + 1) s.size), .bool true]) w) := by
  have HK := Lib.hid K; clear K
  go_enter Tryd.func59, Tryd.ntmps59
  go_wp2_with fail
  with_reducible refine (HK.out _).mono ?_
  rintro e w1 ⟨rfl, rfl⟩
  go_wp2
  go_region
  go_wp2
  exact bodyPost_ret (v := .tuple #[.string (s.extract 0 i), .string (s.extract (i + 1) s.size), .bool true]) (by simp [results, Tryd.results59, go_sem]) rfl ⟨rfl, rfl, rfl, rfl, Nat.le_refl _, fun _ _ => rfl⟩
theorem ba_take (s : ByteArray) (i : Nat) : s.extract 0 i = ⟨(s.data.toList.take i).toArray⟩ := by
  have : (s.extract 0 i).data = s.data.extract 0 i := by simp [ByteArray.data_extract]
  cases h : s.extract 0 i with
  | mk d =>
    rw [h] at this
    simp only at this
    rw [this]
    congr 1
    apply Array.ext'
    simp
theorem ba_drop (s : ByteArray) (i : Nat) : s.extract i s.size = ⟨(s.data.toList.drop i).toArray⟩ := by
  have : (s.extract i s.size).data = s.data.extract i s.size := by simp [ByteArray.data_extract]
  cases h : s.extract i s.size with
  | mk d =>
    rw [h] at this
    simp only at this
    rw [this]
    congr 1
    apply Array.ext'
    have e : s.size = s.data.toList.length := by simp [ByteArray.size_data]
    rw [Array.toList_extract, List.extract_eq_take_drop]
    simp
    rw [List.take_of_length_le]
    simp [ByteArray.size_data]
set_option maxRecDepth 100000 in
set_option maxHeartbeats 4000000 in
theorem cut_of (s : ByteArray) (v : Value) (va vb vc : Value) (hv : v = .tuple #[va, vb, vc]) (w : World) (K : ∀ w, Calls Tryd.prog 59 #[.string s, .string ⟨#[32]⟩] w (Gives v w)) :
    Calls Tryd.prog 41 #[.string s, .string ⟨#[32]⟩] w (Gives v w) := by
  subst hv
  have HK := Lib.hid K; clear K
  go_enter Tryd.func41, Tryd.ntmps41
  go_wp2_with fail
  with_reducible refine (HK.out _).mono ?_
  rintro e w1 ⟨rfl, hb⟩
  go_wp2
  exact bodyPost_ret (v := .tuple #[va, vb, vc]) (by simp [results, Tryd.results41, go_sem]) rfl ⟨rfl, hb⟩
/-- The cut, as a value. -/
def cutV (l : List UInt8) : Value := .tuple #[.string ⟨(cutS l).1.toArray⟩, .string ⟨(cutS l).2.1.toArray⟩, .bool (cutS l).2.2]
theorem idx_any (s : ByteArray) (w : World) : Calls Tryd.prog 69 #[.string s, .string ⟨#[32]⟩] w (Same (.int .i64 (Lib.indexByte s.data.toList 32)) w) :=
  (Tryd.stringslite_Index_one s 32 w).mono fun _ _ ⟨he, hw⟩ => ⟨he, hw.symm⟩
/-- ████ strings.Cut at a blank. ████ -/
theorem cut_any (s : ByteArray) (hs : s.size ≤ 1000000000000) (w : World) : Calls Tryd.prog 41 #[.string s, .string ⟨#[32]⟩] w (Gives (cutV s.data.toList) w) := by
  refine cut_of s _ _ _ _ rfl w fun w => ?_
  have K := fun w => idx_any s w
  by_cases h : Lib.indexByte s.data.toList 32 < 0
  · rw [cutS_no h]
    exact (lcut_no s _ h w K).mono fun _ _ ⟨he, hw⟩ => ⟨he, hw ▸ Below.refl _ _⟩
  · obtain ⟨i, hi⟩ := Int.eq_ofNat_of_zero_le (Int.not_lt.1 h)
    obtain ⟨e, hl⟩ := cutS_at hi
    rw [e, ← ba_take, ← ba_drop]
    simp only [hi] at K
    exact lcut_at s i (by simpa using hl) hs w K
end Go.Proofs.YthgabbkpjffdnaaDoor
