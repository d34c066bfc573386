/-
  The walks of Word and Parse. By an AI agent.
-/
import Derived.Test.YthgabbkpjffdnaaDoorDigitNat
import Derived.Test.YthgabbkpjffdnaaDoorDigitRefText
import Derived.Test.YthgabbkpjffdnaaDoorShelf
namespace Go.Proofs.YthgabbkpjffdnaaDoor.Dt
open Go.RowKit
set_option maxRecDepth 100000 in
set_option maxHeartbeats 400000 in
/-- ████ Word, at every text. ████ -/
theorem word_any (s : ByteArray) (w : World) (hs : s.size ≤ maxLen) : Calls Tryd.prog 61 #[.string s] w (Word2 s.data.toList 20 w) := by
  have Hs := Lib.hid hs; clear hs
  go_enter Tryd.func61, Tryd.ntmps61
  go_wp2_with (go_at_call 71; refine (natural_any s 20 (by decide) (by decide) _ Hs.out).mono ?_; rintro e w' ⟨rfl, hb⟩)
  go_ret2
  exact ⟨rfl, hb⟩
def CParse (l : List UInt8) (a b : Int) (w : World) (e : Ending) (w' : World) : Prop := e = .returned (.tuple #[.int .i64 (Dg.parseV l a b), .int .i64 (Dg.parseE l a b)]) ∧ Below w.heap.size w w'
theorem cparse_of {l : List UInt8} {a b : Int} {w w' : World} {v e : Int} (h : Dg.parseV l a b = v ∧ Dg.parseE l a b = e) (hb : Below w.heap.size w w') : CParse l a b w (.returned (.tuple #[.int .i64 v, .int .i64 e])) w' := by
  unfold CParse; rw [h.1, h.2]; exact ⟨rfl, hb⟩
theorem pre_is (l : List UInt8) : Lib.hasPrefix l [45] = Dg.signed l ∧ Lib.trimPrefix l [45] = Dg.body l := by
  have h : Lib.hasPrefix l [45] = Dg.signed l := by
    unfold Lib.hasPrefix Dg.signed
    cases l with
    | nil => rfl
    | cons c l => simp [List.isPrefixOf, Bool.beq_comm]
  refine ⟨h, ?_⟩
  unfold Lib.trimPrefix Dg.body
  rw [h]
  rfl
/-- CutPrefix at "-". -/
theorem cut_any (s : ByteArray) (w : World) : Calls Tryd.prog 70 #[.string s, .string ⟨#[45]⟩] w fun e w' => e = .returned (.tuple #[.string ⟨(Dg.body s.data.toList).toArray⟩, .bool (Dg.signed s.data.toList)]) ∧ w = w' := by
  refine (Tryd.strings_CutPrefix s ⟨#[45]⟩ w).mono fun e w' h => ?_
  have hp := pre_is s.data.toList
  refine ⟨?_, h.2.symm⟩
  rw [h.1]
  show Ending.returned (.tuple #[.string ⟨(Lib.trimPrefix s.data.toList [45]).toArray⟩, .bool (Lib.hasPrefix s.data.toList [45])]) = _
  rw [hp.1, hp.2]
set_option maxRecDepth 100000 in
set_option maxHeartbeats 400000 in
theorem parse_no (s t : ByteArray) (a b : Int) (sg : Bool) (w : World) (hc : ∀ w, Calls Tryd.prog 70 #[.string s, .string ⟨#[45]⟩] w fun e w' => e = .returned (.tuple #[.string t, .bool sg]) ∧ w = w') (hn : ∀ w, Calls Tryd.prog 71 #[.string t, .int .i64 18] w fun e w' => e = .returned (.tuple #[.int .u64 0, .int .i64 3]) ∧ Below w.heap.size w w') (h : Dg.parseOk s.data.toList = false) :
    Calls Tryd.prog 60 #[.string s, .int .i64 a, .int .i64 b] w (CParse s.data.toList a b w) := by
  have Hc := Lib.hid hc; clear hc
  have Hn := Lib.hid hn; clear hn
  have HW := Lib.hid (Dg.parse_bad (a := a) (b := b) h); clear h
  go_enter Tryd.func60, Tryd.ntmps60
  go_wp2_with (first
    | (go_at_call 70; refine (Hc.out _).mono ?_; rintro e w' ⟨rfl, rfl⟩)
    | (go_at_call 71; refine (Hn.out _).mono ?_; rintro e w' ⟨rfl, hb⟩))
  go_ret2
  exact cparse_of HW.out hb
set_option maxRecDepth 100000 in
set_option maxHeartbeats 400000 in
theorem parse_plain (s t : ByteArray) (a b v : Int) (w : World) (hc : ∀ w, Calls Tryd.prog 70 #[.string s, .string ⟨#[45]⟩] w fun e w' => e = .returned (.tuple #[.string t, .bool false]) ∧ w = w') (hn : ∀ w, Calls Tryd.prog 71 #[.string t, .int .i64 18] w fun e w' => e = .returned (.tuple #[.int .u64 v, .int .i64 0]) ∧ Below w.heap.size w w') (hv0 : 0 ≤ v) (hv1 : v ≤ 999999999999999999) (h : Dg.parseOk s.data.toList = true) (hnum : v = Dg.num s.data.toList) :
    Calls Tryd.prog 60 #[.string s, .int .i64 a, .int .i64 b] w (CParse s.data.toList a b w) := by
  have Hc := Lib.hid hc; clear hc
  have Hn := Lib.hid hn; clear hn
  have Hok := Lib.hid h; clear h
  have HN := Lib.hid hnum; clear hnum
  go_enter Tryd.func60, Tryd.ntmps60
  go_wp2_with (first
    | (go_at_call 70; refine (Hc.out _).mono ?_; rintro e w' ⟨rfl, rfl⟩)
    | (go_at_call 71; refine (Hn.out _).mono ?_; rintro e w' ⟨rfl, hb⟩))
  · go_ret2
    exact cparse_of (Dg.parse_out Hok.out (by rw [← HN.out]; omega)) hb
  · go_ret2
    refine cparse_of ?_ hb
    rw [HN.out]
    exact Dg.parse_in Hok.out (by rw [← HN.out]; omega) (by rw [← HN.out]; omega)
  · go_ret2
    exact cparse_of (Dg.parse_out Hok.out (by rw [← HN.out]; omega)) hb
set_option maxRecDepth 100000 in
set_option maxHeartbeats 400000 in
theorem parse_signed (s t : ByteArray) (a b v : Int) (w : World) (hc : ∀ w, Calls Tryd.prog 70 #[.string s, .string ⟨#[45]⟩] w fun e w' => e = .returned (.tuple #[.string t, .bool true]) ∧ w = w') (hn : ∀ w, Calls Tryd.prog 71 #[.string t, .int .i64 18] w fun e w' => e = .returned (.tuple #[.int .u64 v, .int .i64 0]) ∧ Below w.heap.size w w') (hv0 : 0 ≤ v) (hv1 : v ≤ 999999999999999999) (hz : (v == 0) = false) (h : Dg.parseOk s.data.toList = true) (hnum : -v = Dg.num s.data.toList) :
    Calls Tryd.prog 60 #[.string s, .int .i64 a, .int .i64 b] w (CParse s.data.toList a b w) := by
  have Hc := Lib.hid hc; clear hc
  have Hn := Lib.hid hn; clear hn
  have Hok := Lib.hid h; clear h
  have HN := Lib.hid hnum; clear hnum
  go_enter Tryd.func60, Tryd.ntmps60
  go_wp2_with (first
    | (go_at_call 70; refine (Hc.out _).mono ?_; rintro e w' ⟨rfl, rfl⟩)
    | (go_at_call 71; refine (Hn.out _).mono ?_; rintro e w' ⟨rfl, hb⟩))
  · go_ret2
    exact cparse_of (Dg.parse_out Hok.out (by rw [← HN.out]; omega)) hb
  · go_ret2
    refine cparse_of ?_ hb
    rw [HN.out]
    exact Dg.parse_in Hok.out (by rw [← HN.out]; omega) (by rw [← HN.out]; omega)
  · go_ret2
    exact cparse_of (Dg.parse_out Hok.out (by rw [← HN.out]; omega)) hb
set_option maxRecDepth 100000 in
set_option maxHeartbeats 400000 in
theorem parse_zero (s t : ByteArray) (a b : Int) (w : World) (hc : ∀ w, Calls Tryd.prog 70 #[.string s, .string ⟨#[45]⟩] w fun e w' => e = .returned (.tuple #[.string t, .bool true]) ∧ w = w') (hn : ∀ w, Calls Tryd.prog 71 #[.string t, .int .i64 18] w fun e w' => e = .returned (.tuple #[.int .u64 0, .int .i64 0]) ∧ Below w.heap.size w w') (h : Dg.parseOk s.data.toList = false) :
    Calls Tryd.prog 60 #[.string s, .int .i64 a, .int .i64 b] w (CParse s.data.toList a b w) := by
  have Hc := Lib.hid hc; clear hc
  have Hn := Lib.hid hn; clear hn
  have HW := Lib.hid (Dg.parse_bad (a := a) (b := b) h); clear h
  go_enter Tryd.func60, Tryd.ntmps60
  go_wp2_with (first
    | (go_at_call 70; refine (Hc.out _).mono ?_; rintro e w' ⟨rfl, rfl⟩)
    | (go_at_call 71; refine (Hn.out _).mono ?_; rintro e w' ⟨rfl, hb⟩))
  go_ret2
  exact cparse_of HW.out hb
theorem body_len (l : List UInt8) : (Dg.body l).length ≤ l.length := by
  unfold Dg.body
  split
  · rw [List.length_drop]; omega
  · exact Nat.le_refl _
/-- ████ Parse, at every text. ████ -/
theorem parse_any (s : ByteArray) (a b : Int) (w : World) (hs : s.size ≤ maxLen) :
    Calls Tryd.prog 60 #[.string s, .int .i64 a, .int .i64 b] w (CParse s.data.toList a b w) := by
  obtain ⟨l, hl⟩ : ∃ l, Dg.body s.data.toList = l := ⟨_, rfl⟩
  have hc := cut_any s
  have htl : (⟨l.toArray⟩ : ByteArray).data.toList = l := by simp
  have hsz : (⟨l.toArray⟩ : ByteArray).size ≤ maxLen := by
    have h1 := body_len s.data.toList
    have h2 : (⟨l.toArray⟩ : ByteArray).size = l.length := by simp [ByteArray.size]
    rw [ba_len] at h1
    rw [hl] at h1
    omega
  have hn : ∀ w, Calls Tryd.prog 71 #[.string ⟨l.toArray⟩, .int .i64 18] w (Word2 l 18 w) := fun w => by
    have := natural_any ⟨l.toArray⟩ 18 (by decide) (by decide) w hsz
    rw [htl] at this
    exact this
  rw [hl] at hc
  by_cases hwf : Dg.wfB l = true ∧ l.length ≤ 18
  · have hv := Dg.word18 hwf.1 hwf.2
    have hw := Dg.word_ok hwf.1 hwf.2 (by omega)
    unfold Word2 at hn
    rw [hw.1, hw.2] at hn
    cases hsg : Dg.signed s.data.toList with
    | false =>
      rw [hsg] at hc
      exact parse_plain s _ a b (Dg.val l : Int) w hc hn (by omega) (by omega) (Dg.ok_plain hsg (by rw [hl]; exact hwf.1) (by rw [hl]; exact hwf.2)) (by rw [Dg.num_plain hsg, hl])
    | true =>
      rw [hsg] at hc
      by_cases hz : Dg.val l = 0
      · rw [hz] at hn
        exact parse_zero s _ a b w hc hn (Dg.ok_zero hsg (by rw [hl]; exact hz))
      · exact parse_signed s _ a b (Dg.val l : Int) w hc hn (by omega) (by omega) (by rw [beq_eq_false_iff_ne]; omega) (Dg.ok_signed (by rw [hl]; exact hwf.1) (by rw [hl]; exact hwf.2) (by rw [hl]; exact hz)) (by rw [Dg.num_signed hsg, hl])
  · have hbad : Dg.wordV l 18 = 0 ∧ Dg.wordE l 18 = 3 := by
      by_cases h1 : Dg.wfB l = true
      · have h18 : ¬ l.length ≤ 18 := fun h => hwf ⟨h1, h⟩
        exact Dg.word_long (by omega)
      · exact Dg.word_bad (by simpa using h1)
    have hok : Dg.parseOk s.data.toList = false := by
      by_cases h1 : Dg.wfB l = true
      · have h18 : ¬ l.length ≤ 18 := fun h => hwf ⟨h1, h⟩
        exact Dg.ok_long (by rw [hl]; omega)
      · exact Dg.ok_no (by rw [hl]; simpa using h1)
    unfold Word2 at hn
    rw [hbad.1, hbad.2] at hn
    exact parse_no s _ a b _ w hc hn hok
end Go.Proofs.YthgabbkpjffdnaaDoor.Dt
