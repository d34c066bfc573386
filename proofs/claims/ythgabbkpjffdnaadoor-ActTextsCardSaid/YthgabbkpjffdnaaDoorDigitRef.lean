/-
  The walks of the document's own digits and Word. By an AI agent.
-/
import Derived.Test.YthgabbkpjffdnaaDoorChecked
import Derived.Test.YthgabbkpjffdnaaDoorDigitMath
import Derived.WalkKit
import Derived.WalkSpells
import Derived.WalkLawsBesides
import Derived.WalkMore
import Derived.Below
import Derived.Lib.Hide
namespace Go.Proofs.YthgabbkpjffdnaaDoor.Dt
open Go.RowKit
theorem rba_len (s : ByteArray) : s.data.toList.length = s.size := Array.length_toList
theorem rba_getElem (s : ByteArray) (k : Nat) (h : k < s.size) : s[k] = s.data.toList[k]'(by simpa using h) := by
  simp [ByteArray.getElem_eq_getElem_data]
def Tells (b : Bool) (w : World) (e : Ending) (w' : World) : Prop := e = .returned (.bool b) ∧ w = w'
theorem tells_of {b c : Bool} {w : World} (h : c = b) : Tells b w (.returned (.bool c)) w := by subst h; exact ⟨rfl, rfl⟩
set_option maxRecDepth 100000 in
set_option maxHeartbeats 400000 in
theorem digits_none (s : ByteArray) (w : World) (h0 : ((s.size : Int) == 0) = true) :
    Calls Tryd.prog 62 #[.string s] w (Tells (Dg.wfB s.data.toList) w) := by
  have hz : s.size = 0 := by have : (s.size : Int) = 0 := by simpa using h0
                             omega
  have HW : Hid (Dg.wfB s.data.toList = false) := Dg.wf_none (by rw [rba_len]; exact hz)
  clear hz
  go_enter Tryd.func62, Tryd.ntmps62
  go_wp2
  go_ret
  exact tells_of HW.out.symm
theorem dg_bad {s : ByteArray} {k : Nat} (hk : k < s.size) (h : ¬ (48 ≤ (s[k].toNat : Int) ∧ (s[k].toNat : Int) ≤ 57)) : false = Dg.wfB s.data.toList := by
  refine (Dg.wf_at (k := k) (by rw [rba_len]; exact hk) ?_).symm
  rw [← rba_getElem s k hk]
  simp only [Dg.isDig, Bool.and_eq_false_iff, decide_eq_false_iff_not]
  omega
theorem dg_next {s : ByteArray} {k : Nat} (hk : k < s.size) (h : 48 ≤ (s[k].toNat : Int) ∧ (s[k].toNat : Int) ≤ 57) (hall : (s.data.toList.take k).all Dg.isDig = true) : (s.data.toList.take (k + 1)).all Dg.isDig = true := by
  refine Dg.all_succ (by rw [rba_len]; exact hk) hall ?_
  rw [← rba_getElem s k hk, Dg.isDig_iff]
  omega
theorem dg_end {s : ByteArray} {k : Nat} (hpos : 0 < s.size) (hk : ¬ k < s.size) (hall : (s.data.toList.take k).all Dg.isDig = true) : ((s.size : Int) == 1 || (s[0].toNat : Int) != 48) = Dg.wfB s.data.toList := by
  rw [List.take_of_length_le (by rw [rba_len]; omega)] at hall
  unfold Dg.wfB
  rw [hall, rba_len, rba_getElem s 0 hpos, List.getD_eq_getElem?_getD, List.getElem?_eq_getElem (by rw [rba_len]; exact hpos)]
  rw [Bool.eq_iff_iff]
  simp only [Bool.true_and, Bool.or_eq_true, Bool.and_eq_true, beq_iff_eq, bne_iff_ne, Option.getD_some, ne_eq]
  have e : ((s.data.toList[0]'(by rw [rba_len]; exact hpos)).toNat : Int) = 48 ↔ (s.data.toList[0]'(by rw [rba_len]; exact hpos)) = 48 := by
    constructor
    · intro h; exact UInt8.toNat_inj.mp (by have : (48 : UInt8).toNat = 48 := rfl
                                            omega)
    · intro h; rw [h]; rfl
  rw [e]
  constructor
  · rintro (h | h)
    · exact Or.inl (by omega)
    · exact Or.inr ⟨by omega, h⟩
  · rintro (h | h)
    · exact Or.inl (by omega)
    · exact Or.inr h.2
set_option maxRecDepth 100000 in
set_option maxHeartbeats 400000 in
theorem digits_some (s : ByteArray) (w : World) (hs : s.size ≤ maxLen) (h0 : ((s.size : Int) == 0) = false) :
    Calls Tryd.prog 62 #[.string s] w (Tells (Dg.wfB s.data.toList) w) := by
  unfold maxLen at hs
  have hpos : 0 < s.size := by
    have : ¬ (s.size : Int) = 0 := by simpa using h0
    omega
  go_enter Tryd.func62, Tryd.ntmps62
  go_wp2
  go_loop [3] (fun i => ∃ k : Nat, k ≤ s.size ∧ i = .int .i64 k ∧ (s.data.toList.take k).all Dg.isDig = true) (fun i => s.size - (intOf i).toNat)
  case atStart => exact ⟨0, Nat.zero_le _, rfl, by simp⟩
  case round =>
    obtain ⟨k, hk, rfl, hall⟩ := hrel
    have Hall := Lib.hid hall; clear hall
    by_cases hlt : k < s.size
    · go_wp2
      · go_ret
        exact tells_of (dg_bad hlt (by omega))
      · go_round
        case rel => exact ⟨k + 1, by omega, by go_num, dg_next hlt ‹_› Hall.out⟩
        case measure => simp [intOf]; omega
      · go_ret
        exact tells_of (dg_bad hlt (by omega))
    · go_wp2
      · go_ret
        refine tells_of ?_
        rw [← dg_end hpos hlt Hall.out]
        simp
        omega
      · go_ret
        exact tells_of (dg_end hpos hlt Hall.out)
/-- ████ digits, at every text. ████ -/
theorem digits_any (s : ByteArray) (w : World) (hs : s.size ≤ maxLen) :
    Calls Tryd.prog 62 #[.string s] w (Tells (Dg.wfB s.data.toList) w) := by
  by_cases h0 : s.size = 0
  · exact digits_none s w (by rw [beq_iff_eq]; omega)
  · exact digits_some s w hs (by rw [beq_eq_false_iff_ne]; omega)

def RWord (l : List UInt8) (w : World) (e : Ending) (w' : World) : Prop := e = .returned (.tuple #[.int .u64 (Dg.wordV l 20), .int .i64 (Dg.wordE l 20)]) ∧ w = w'
theorem rword_of {l : List UInt8} {w : World} {v : Nat} {v' e : Int} (h : Dg.wordV l 20 = v ∧ Dg.wordE l 20 = e) (hv : v' = (v : Int)) : RWord l w (.returned (.tuple #[.int .u64 v', .int .i64 e])) w := by
  unfold RWord; rw [h.1, h.2, hv]; exact ⟨rfl, rfl⟩
set_option maxRecDepth 100000 in
set_option maxHeartbeats 400000 in
theorem rword_bad (s : ByteArray) (w : World) (hs : s.size ≤ maxLen) (h : Dg.wfB s.data.toList = false) :
    Calls Tryd.prog 45 #[.string s] w (RWord s.data.toList w) := by
  have hc : ∀ w, Calls Tryd.prog 62 #[.string s] w (Tells false w) := fun w => h ▸ digits_any s w hs
  have Hc := Lib.hid hc; clear hc
  have HW := Lib.hid (Dg.word_bad (n := 20) h); clear h
  unfold maxLen at hs
  go_enter Tryd.func45, Tryd.ntmps45
  go_wp2_with (go_at_call 62; refine (Hc.out _).mono ?_; rintro e w' ⟨rfl, rfl⟩)
  go_ret2
  exact rword_of HW.out rfl
set_option maxRecDepth 100000 in
set_option maxHeartbeats 400000 in
theorem rword_long (s : ByteArray) (w : World) (hs : s.size ≤ maxLen) (h : Dg.wfB s.data.toList = true) (h20 : 20 < (s.size : Int)) :
    Calls Tryd.prog 45 #[.string s] w (RWord s.data.toList w) := by
  have hc : ∀ w, Calls Tryd.prog 62 #[.string s] w (Tells true w) := fun w => h ▸ digits_any s w hs
  have Hc := Lib.hid hc; clear hc
  have HW := Lib.hid (Dg.word_long (l := s.data.toList) (n := 20) (by rw [rba_len]; omega)); clear h
  unfold maxLen at hs
  go_enter Tryd.func45, Tryd.ntmps45
  go_wp2_with (go_at_call 62; refine (Hc.out _).mono ?_; rintro e w' ⟨rfl, rfl⟩)
  go_ret2
  exact rword_of HW.out rfl
abbrev mostL : List UInt8 := [49, 56, 52, 52, 54, 55, 52, 52, 48, 55, 51, 55, 48, 57, 53, 53, 49, 54, 49, 53]
theorem mostL_val : Dg.val mostL = 18446744073709551615 := by decide +kernel
theorem mostL_all : mostL.all Dg.isDig = true := by decide +kernel
theorem wf_all {l : List UInt8} (h : Dg.wfB l = true) : l.all Dg.isDig = true := by
  unfold Dg.wfB at h
  rw [Bool.and_eq_true] at h
  exact h.1
theorem eq_of_val : ∀ (a b : List UInt8), a.length = b.length → a.all Dg.isDig = true → b.all Dg.isDig = true → Dg.val a = Dg.val b → a = b
  | [], [], _, _, _, _ => rfl
  | x :: a, y :: b, hl, ha, hb, hv => by
    rw [List.all_cons, Bool.and_eq_true, Dg.isDig_iff] at ha hb
    have hl' : a.length = b.length := by simpa using hl
    have va := Dg.val_lt a ha.2
    have vb := Dg.val_lt b hb.2
    rw [Dg.val_cons, Dg.val_cons, hl'] at hv
    rw [hl'] at va
    generalize hp : 10 ^ b.length = p at *
    have hx : x.toNat = y.toNat := by
      rcases Nat.lt_trichotomy x.toNat y.toNat with h | h | h
      · have h2 : (x.toNat - 48 + 1) * p ≤ (y.toNat - 48) * p := Nat.mul_le_mul_right _ (by omega)
        rw [Nat.add_mul] at h2
        omega
      · exact h
      · have h2 : (y.toNat - 48 + 1) * p ≤ (x.toNat - 48) * p := Nat.mul_le_mul_right _ (by omega)
        rw [Nat.add_mul] at h2
        omega
    rw [hx] at hv
    rw [UInt8.toNat_inj.mp hx, eq_of_val a b hl' ha.2 hb.2 (by omega)]
theorem cmp_most {s : ByteArray} (h : Dg.wfB s.data.toList = true) (h20 : s.size = 20) :
    Op.bytesLess s.toList mostL = decide (Dg.val s.data.toList < 18446744073709551615) ∧ (s.toList == mostL) = decide (Dg.val s.data.toList = 18446744073709551615) := by
  have e : s.toList = s.data.toList := ByteArray.toList_eq s
  have hl : s.data.toList.length = mostL.length := by rw [rba_len, h20]; rfl
  rw [e]
  refine ⟨?_, ?_⟩
  · rw [Dg.less_val _ _ hl (wf_all h) mostL_all, mostL_val]
  · rw [Bool.eq_iff_iff, beq_iff_eq, decide_eq_true_iff]
    constructor
    · intro he; rw [he, mostL_val]
    · intro hv; exact eq_of_val _ _ hl (wf_all h) mostL_all (by rw [hv, mostL_val])
theorem rw_next {s : ByteArray} {k : Nat} {a : Int} (hwf : Dg.wfB s.data.toList = true) (hk : k < s.size) (ha : a = (Dg.val (s.data.toList.take k) : Int)) (hv : Dg.val s.data.toList < 18446744073709551616) :
    (Dg.val (s.data.toList.take (k + 1)) : Int) = 10 * a + ((s[k].toNat : Int) - 48) ∧ 48 ≤ (s[k].toNat : Int) ∧ (s[k].toNat : Int) ≤ 57 ∧ 10 * a + ((s[k].toNat : Int) - 48) ≤ 18446744073709551615 := by
  have hkl : k < s.data.toList.length := by rw [rba_len]; exact hk
  have hd : Dg.isDig s.data.toList[k] = true := by
    have := wf_all hwf
    rw [List.all_eq_true] at this
    exact this _ (List.getElem_mem hkl)
  have e := rba_getElem s k hk
  rw [← e, Dg.isDig_iff] at hd
  have h1 := Dg.val_succ hkl
  rw [← e] at h1
  have hle : Dg.val (s.data.toList.take (k + 1)) ≤ Dg.val s.data.toList := by
    have h2 := Dg.val_from (s.data.toList.drop (k + 1)) (Dg.val (s.data.toList.take (k + 1)))
    have h3 : Dg.val s.data.toList = (s.data.toList.drop (k + 1)).foldl (fun a c => 10 * a + (c.toNat - 48)) (Dg.val (s.data.toList.take (k + 1))) := by
      conv => lhs; rw [← List.take_append_drop (k + 1) s.data.toList]
      unfold Dg.val
      rw [List.foldl_append]
    rw [h3, h2]
    have h4 : 1 ≤ 10 ^ (s.data.toList.drop (k + 1)).length := Nat.one_le_pow _ _ (by decide)
    have h5 := Nat.mul_le_mul_left (Dg.val (s.data.toList.take (k + 1))) h4
    omega
  refine ⟨by omega, by omega, by omega, by omega⟩
set_option maxRecDepth 100000 in
set_option maxHeartbeats 400000 in
theorem rword_over (s : ByteArray) (w : World) (hs : s.size ≤ maxLen) (h : Dg.wfB s.data.toList = true) (hle : (s.size : Int) ≤ 20) (h20 : ((s.size : Int) == 20) = true) (hv : ¬ Dg.val s.data.toList < 18446744073709551616) :
    Calls Tryd.prog 45 #[.string s] w (RWord s.data.toList w) := by
  have hc : ∀ w, Calls Tryd.prog 62 #[.string s] w (Tells true w) := fun w => h ▸ digits_any s w hs
  have Hc := Lib.hid hc; clear hc
  have hz : s.size = 20 := by have : (s.size : Int) = 20 := by simpa using h20
                              omega
  have hcm := cmp_most h hz
  have hl1 : Op.bytesLess s.toList mostL = false := by rw [hcm.1]; simp; omega
  have hl2 : (s.toList == mostL) = false := by rw [hcm.2]; simp; omega
  have HW := Lib.hid (Dg.word_over (n := 20) h (by rw [rba_len]; omega) hv); clear h hv hcm hz
  unfold maxLen at hs
  go_enter Tryd.func45, Tryd.ntmps45
  go_wp2_with (go_at_call 62; refine (Hc.out _).mono ?_; rintro e w' ⟨rfl, rfl⟩)
  go_ret2
  exact rword_of HW.out rfl
set_option maxRecDepth 100000 in
set_option maxHeartbeats 800000 in
theorem rword_main (s : ByteArray) (w : World) (hs : s.size ≤ maxLen) (h : Dg.wfB s.data.toList = true) (h20 : (s.size : Int) ≤ 20) (hv : Dg.val s.data.toList < 18446744073709551616)
    (hcm : ((s.size : Int) == 20) = false ∨ ((s.size : Int) == 20) = true ∧ (Op.bytesLess s.toList mostL = true ∨ Op.bytesLess s.toList mostL = false ∧ (s.toList == mostL) = true)) :
    Calls Tryd.prog 45 #[.string s] w (RWord s.data.toList w) := by
  have hc : ∀ w, Calls Tryd.prog 62 #[.string s] w (Tells true w) := fun w => h ▸ digits_any s w hs
  have Hc := Lib.hid hc; clear hc
  have Hwf := Lib.hid h; clear h
  have Hv := Lib.hid hv; clear hv
  unfold maxLen at hs
  rcases hcm with hc1 | ⟨hc1, hc2 | ⟨hc2, hc3⟩⟩
  all_goals
    go_enter Tryd.func45, Tryd.ntmps45
    go_wp2_with (go_at_call 62; refine (Hc.out _).mono ?_; rintro e w' ⟨rfl, rfl⟩)
    go_loop [5, 6] (fun a i => ∃ (k : Nat) (n : Int), k ≤ s.size ∧ 0 ≤ n ∧ i = .int .i64 k ∧ a = .int .u64 n ∧ n = (Dg.val (s.data.toList.take k) : Int)) (fun _ i => s.size - (intOf i).toNat)
    case atStart => exact ⟨0, 0, Nat.zero_le _, Int.le_refl _, rfl, rfl, by simp [Dg.val]⟩
    case round =>
      obtain ⟨k, n, hk, hn0, rfl, rfl, hn⟩ := hrel
      have Hn := Lib.hid hn; clear hn
      by_cases hlt : k < s.size
      · obtain ⟨e1, e2, e3, e4⟩ := rw_next Hwf.out hlt Hn.out Hv.out
        have He := Lib.hid e1; clear e1
        go_wp2
        go_round
        case rel => exact ⟨k + 1, _, by omega, by omega, by go_num, rfl, He.out.symm⟩
        case measure => simp [intOf]; omega
      · have hal : s.data.toList.take k = s.data.toList := List.take_of_length_le (by rw [rba_len]; omega)
        have Hal := Lib.hid hal; clear hal
        go_wp2
        go_ret2
        exact rword_of (Dg.word_ok Hwf.out (by rw [rba_len]; omega) Hv.out) (by rw [Hn.out, Hal.out])
/-- ████ the document's Word, at every text. ████ -/
theorem rword_any (s : ByteArray) (w : World) (hs : s.size ≤ maxLen) :
    Calls Tryd.prog 45 #[.string s] w (RWord s.data.toList w) := by
  by_cases h : Dg.wfB s.data.toList = true
  · by_cases h20 : (s.size : Int) ≤ 20
    · by_cases hv : Dg.val s.data.toList < 18446744073709551616
      · refine rword_main s w hs h h20 hv ?_
        by_cases hz : s.size = 20
        · obtain ⟨c1, c2⟩ := cmp_most h hz
          refine Or.inr ⟨by rw [beq_iff_eq]; omega, ?_⟩
          by_cases hq : Dg.val s.data.toList < 18446744073709551615
          · exact Or.inl (by rw [c1]; exact decide_eq_true hq)
          · exact Or.inr ⟨by rw [c1]; exact decide_eq_false hq, by rw [c2]; exact decide_eq_true (by omega)⟩
        · exact Or.inl (by rw [beq_eq_false_iff_ne]; omega)
      · have hz : s.size = 20 := by
          have h1 := Dg.val_lt _ (wf_all h)
          rw [rba_len] at h1
          rcases Nat.lt_or_ge s.size 20 with hlt | hge
          · have h2 : 10 ^ s.size ≤ 10 ^ 19 := Nat.pow_le_pow_right (by omega) (by omega)
            have h3 : (10 : Nat) ^ 19 = 10000000000000000000 := by decide
            omega
          · omega
        exact rword_over s w hs h h20 (by rw [beq_iff_eq]; omega) hv
    · exact rword_long s w hs h (by omega)
  · exact rword_bad s w hs (by simpa using h)
end Go.Proofs.YthgabbkpjffdnaaDoor.Dt
