/-
  The walks of awake, HexaTells and HexaBack. By an AI agent.
-/
import Derived.Test.YtombholjbcnncaaDoorHexaRef
namespace Go.Proofs.YtombholjbcnncaaDoor
open Go.RowKit
theorem Tab.next {w w' : World} (h : Tab w) (hb : Below w.heap.size w w') : Tab w' := h.below hb h.lt
/-- Parse, at whatever text: what it answers is what the document's own answers. -/
theorem parse_both (t : ByteArray) (ht : t.size ≤ 1099511627776) : ∃ X n, (∀ w, Tab w → Calls Tryd.prog 6 #[.string t] w (Gives (.tuple #[.string X, .int .i64 n]) w)) ∧ (∀ w, Calls Tryd.prog 7 #[.string t] w (Gives (.tuple #[.string X, .int .i64 n]) w)) := by
  by_cases h : Hx.Text t.data.toList
  · exact ⟨_, _, fun w hw => parse_text t w hw ht h, fun w => rparse_text t w ht h⟩
  · exact ⟨_, _, fun w hw => parse_not t w hw ht h, fun w => rparse_not t w ht h⟩
theorem awake_p1 (w : World) (hw : Tab w) : Calls Tryd.prog 6 #[.string ⟨#[54, 65]⟩] w (Gives (.tuple #[.string ⟨#[]⟩, .int .i64 3]) w) :=
  parse_not _ w hw (by decide) (fun h => by
    rcases h with h | ⟨_, _, h⟩
    · cases h
    · exact absurd (h 1 (by decide)) (by decide))
theorem awake_p2 (w : World) (hw : Tab w) : Calls Tryd.prog 6 #[.string ⟨#[54, 49, 50, 100]⟩] w (Gives (.tuple #[.string ⟨#[97, 45]⟩, .int .i64 0]) w) :=
  parse_text _ w hw (by decide) (.inr ⟨by decide, by decide, by decide⟩)
theorem awake_p3 (w : World) : Calls Tryd.prog 6 #[.string ⟨#[]⟩] w (Gives (.tuple #[.string ⟨#[]⟩, .int .i64 3]) w) := parse_none w
theorem awake_p4 (w : World) (hw : Tab w) : Calls Tryd.prog 8 #[.string ⟨#[97, 45]⟩] w (Gives (.string ⟨#[54, 49, 50, 100]⟩) w) := print_any _ w hw (by decide)
set_option maxRecDepth 100000 in
set_option maxHeartbeats 2000000 in
theorem awake_any (w : World) (ht : Tab w) : Calls Tryd.prog 5 #[] w (Gives (.bool true) w) := by
  have T0 := Lib.hid ht; clear ht
  go_enter Tryd.func5, Tryd.ntmps5
  go_wp2_with fail
  with_reducible refine (awake_p1 _ T0.out).mono ?_
  rintro e w1 ⟨rfl, hb1⟩
  have T1 := Lib.hid (T0.out.next hb1)
  have B1 := Lib.hid hb1; clear hb1
  go_wp2_with fail
  with_reducible refine (awake_p2 _ T1.out).mono ?_
  rintro e w2 ⟨rfl, hb1⟩
  have T2 := Lib.hid (T1.out.next hb1)
  have B2 := Lib.hid (B1.out.trans (hb1.mono B1.out.size)); clear hb1
  go_wp2_with fail
  with_reducible refine (awake_p3 _).mono ?_
  rintro e w3 ⟨rfl, hb1⟩
  have T3 := Lib.hid (T2.out.next hb1)
  have B3 := Lib.hid (B2.out.trans (hb1.mono B2.out.size)); clear hb1
  go_wp2_with fail
  with_reducible refine (awake_p4 _ T3.out).mono ?_
  rintro e w4 ⟨rfl, hb1⟩
  have T4 := Lib.hid (T3.out.next hb1)
  have B4 := Lib.hid (B3.out.trans (hb1.mono B3.out.size)); clear hb1
  go_wp2_with fail
  with_reducible refine (print_none _).mono ?_
  rintro e w5 ⟨rfl, hb1⟩
  have B5 := Lib.hid (B4.out.trans (hb1.mono B4.out.size)); clear hb1
  go_wp2
  go_ret
  exact ⟨rfl, B5.out⟩
set_option maxRecDepth 100000 in
set_option maxHeartbeats 2000000 in
theorem tells_long (s t : ByteArray) (w : World) (ht : Tab w) (h : 300 < s.size ∨ ¬ 300 < s.size ∧ 300 < t.size) (hs : s.size ≤ maxLen) (hl : t.size ≤ maxLen) : Calls Tryd.prog 3 #[.string s, .string t] w (Gives (.bool true) w) := by
  unfold maxLen at hs hl
  have T0 := Lib.hid ht; clear ht
  rcases h with h | ⟨h, h'⟩
  all_goals
    go_enter Tryd.func3, Tryd.ntmps3
    go_wp2_with fail
    with_reducible refine (awake_any _ T0.out).mono ?_
    rintro e w1 ⟨rfl, hb1⟩
    go_wp2
    go_ret
    exact ⟨rfl, hb1⟩
set_option maxRecDepth 100000 in
set_option maxHeartbeats 2000000 in
theorem tells_short (s t : ByteArray) (w : World) (ht : Tab w) (h1 : s.size ≤ 300) (h2 : t.size ≤ 300) : Calls Tryd.prog 3 #[.string s, .string t] w (Gives (.bool true) w) := by
  have T0 := Lib.hid ht; clear ht
  obtain ⟨X, n, PA, RA⟩ := parse_both t (by omega)
  have PR := fun w hw => print_any s w hw (by omega)
  have RR := fun w => rprint_any s w (by omega)
  generalize (⟨(Hx.print s.data.toList).toArray⟩ : ByteArray) = Y at PR RR
  have HPA := Lib.hid PA; clear PA
  have HRA := Lib.hid RA; clear RA
  have HPR := Lib.hid PR; clear PR
  have HRR := Lib.hid RR; clear RR
  have n1 : ¬ 300 < (s.size : Int) := by omega
  have n2 : ¬ 300 < (t.size : Int) := by omega
  go_enter Tryd.func3, Tryd.ntmps3
  go_wp2_with fail
  with_reducible refine (HPA.out _ T0.out).mono ?_
  rintro e w1 ⟨rfl, hb1⟩
  have T1 := Lib.hid (T0.out.next hb1)
  have B1 := Lib.hid hb1; clear hb1
  go_wp2_with fail
  with_reducible refine (HRA.out _).mono ?_
  rintro e w2 ⟨rfl, hb1⟩
  have T2 := Lib.hid (T1.out.next hb1)
  have B2 := Lib.hid (B1.out.trans (hb1.mono B1.out.size)); clear hb1
  go_wp2_with fail
  with_reducible refine (HPR.out _ T2.out).mono ?_
  rintro e w3 ⟨rfl, hb1⟩
  have T3 := Lib.hid (T2.out.next hb1)
  have B3 := Lib.hid (B2.out.trans (hb1.mono B2.out.size)); clear hb1
  go_wp2_with fail
  with_reducible refine (HRR.out _).mono ?_
  rintro e w4 ⟨rfl, hb1⟩
  have T4 := Lib.hid (T3.out.next hb1)
  have B4 := Lib.hid (B3.out.trans (hb1.mono B3.out.size)); clear hb1
  go_wp2_with fail
  with_reducible refine (awake_any _ T4.out).mono ?_
  rintro e w5 ⟨rfl, hb1⟩
  have B5 := Lib.hid (B4.out.trans (hb1.mono B4.out.size)); clear hb1
  go_wp2
  go_ret
  exact ⟨rfl, B5.out⟩
/-- ████ HexaTells. ████ -/
theorem tells_walk (s t : ByteArray) (w : World) (hs : s.size ≤ maxLen) (hl : t.size ≤ maxLen) (ht : Tab w) : Calls Tryd.prog 3 #[.string s, .string t] w (Gives (.bool true) w) := by
  by_cases h1 : 300 < s.size
  · exact tells_long s t w ht (.inl h1) hs hl
  · by_cases h2 : 300 < t.size
    · exact tells_long s t w ht (.inr ⟨h1, h2⟩) hs hl
    · exact tells_short s t w ht (by omega) (by omega)
theorem print_len (l : List UInt8) : (Hx.print l).length ≤ 2 * l.length + 1 := by
  unfold Hx.print
  split
  · simp
  · rw [Hx.textTo_len]; omega
/-- Parse behind Print: the same bytes. -/
theorem print_then (s : ByteArray) (hs : s.size ≤ 1000000) : ∃ X, (∀ w, Tab w → Calls Tryd.prog 8 #[.string s] w (Gives (.string X) w)) ∧ (∀ w, Tab w → Calls Tryd.prog 6 #[.string X] w (Gives (.tuple #[.string s, .int .i64 0]) w)) := by
  refine ⟨_, fun w hw => print_any s w hw (by omega), fun w hw => ?_⟩
  have h := Hx.text_print s.data.toList
  have hp := parse_text ⟨(Hx.print s.data.toList).toArray⟩ w hw (by
    have := print_len s.data.toList
    rw [ba_len] at this
    rw [← ba_len]
    show (Hx.print s.data.toList).toArray.toList.length ≤ _
    simp
    omega) (by simpa using h.1)
  have e : good2 (Hx.parse (⟨(Hx.print s.data.toList).toArray⟩ : ByteArray).data.toList) = .tuple #[.string s, .int .i64 0] := by
    show good2 (Hx.parse (Hx.print s.data.toList).toArray.toList) = _
    rw [List.toList_toArray, h.2]
    unfold good2
    rw [← ba_of rfl]
  rwa [e] at hp
/-- Print behind Parse: the same text. -/
theorem parse_then (t : ByteArray) (ht : t.size ≤ 1000000) (h : Hx.Text t.data.toList) : ∃ X, (∀ w, Tab w → Calls Tryd.prog 6 #[.string t] w (Gives (.tuple #[.string X, .int .i64 0]) w)) ∧ (∀ w, Tab w → Calls Tryd.prog 8 #[.string X] w (Gives (.string t) w)) := by
  refine ⟨_, fun w hw => parse_text t w hw (by omega) h, fun w hw => ?_⟩
  have hp := print_any ⟨(Hx.parse t.data.toList).toArray⟩ w hw (by
    rw [← ba_len]
    show (Hx.parse t.data.toList).toArray.toList.length ≤ _
    rw [List.toList_toArray]
    unfold Hx.parse
    split
    · simp
    · rw [Hx.bytesTo_len, ba_len]; omega)
  have e : (⟨(Hx.print (⟨(Hx.parse t.data.toList).toArray⟩ : ByteArray).data.toList).toArray⟩ : ByteArray) = t := by
    show (⟨(Hx.print (Hx.parse t.data.toList).toArray.toList).toArray⟩ : ByteArray) = t
    rw [List.toList_toArray, Hx.print_parse h, ← ba_of rfl]
  rwa [e] at hp
set_option maxRecDepth 100000 in
set_option maxHeartbeats 2000000 in
theorem back_long (s t : ByteArray) (w : World) (ht : Tab w) (h : 2000 < s.size ∨ ¬ 2000 < s.size ∧ 2000 < t.size) (hs : s.size ≤ maxLen) (hl : t.size ≤ maxLen) : Calls Tryd.prog 4 #[.string s, .string t] w (Gives (.bool true) w) := by
  unfold maxLen at hs hl
  have T0 := Lib.hid ht; clear ht
  rcases h with h | ⟨h, h'⟩
  all_goals
    go_enter Tryd.func4, Tryd.ntmps4
    go_wp2_with fail
    with_reducible refine (awake_any _ T0.out).mono ?_
    rintro e w1 ⟨rfl, hb1⟩
    go_wp2
    go_ret
    exact ⟨rfl, hb1⟩
set_option maxRecDepth 100000 in
set_option maxHeartbeats 2000000 in
theorem back_text (s t : ByteArray) (w : World) (ht : Tab w) (h1 : s.size ≤ 2000) (h2 : t.size ≤ 2000) (h : Hx.Text t.data.toList) : Calls Tryd.prog 4 #[.string s, .string t] w (Gives (.bool true) w) := by
  have T0 := Lib.hid ht; clear ht
  obtain ⟨X, PA, RA⟩ := print_then s (by omega)
  obtain ⟨Y, PB, RB⟩ := parse_then t (by omega) h
  clear h
  have HPA := Lib.hid PA; clear PA
  have HRA := Lib.hid RA; clear RA
  have HPB := Lib.hid PB; clear PB
  have HRB := Lib.hid RB; clear RB
  have n1 : ¬ 2000 < (s.size : Int) := by omega
  have n2 : ¬ 2000 < (t.size : Int) := by omega
  go_enter Tryd.func4, Tryd.ntmps4
  go_wp2_with fail
  with_reducible refine (HPA.out _ T0.out).mono ?_
  rintro e w1 ⟨rfl, hb1⟩
  have T1 := Lib.hid (T0.out.next hb1)
  have B1 := Lib.hid hb1; clear hb1
  go_wp2_with fail
  with_reducible refine (HRA.out _ T1.out).mono ?_
  rintro e w2 ⟨rfl, hb1⟩
  have T2 := Lib.hid (T1.out.next hb1)
  have B2 := Lib.hid (B1.out.trans (hb1.mono B1.out.size)); clear hb1
  go_wp2_with fail
  with_reducible refine (HPB.out _ T2.out).mono ?_
  rintro e w3 ⟨rfl, hb1⟩
  have T3 := Lib.hid (T2.out.next hb1)
  have B3 := Lib.hid (B2.out.trans (hb1.mono B2.out.size)); clear hb1
  go_wp2_with fail
  with_reducible refine (HRB.out _ T3.out).mono ?_
  rintro e w4 ⟨rfl, hb1⟩
  have T4 := Lib.hid (T3.out.next hb1)
  have B4 := Lib.hid (B3.out.trans (hb1.mono B3.out.size)); clear hb1
  go_wp2_with fail
  with_reducible refine (awake_any _ T4.out).mono ?_
  rintro e w5 ⟨rfl, hb1⟩
  have B5 := Lib.hid (B4.out.trans (hb1.mono B4.out.size)); clear hb1
  go_wp2
  go_ret
  exact ⟨rfl, B5.out⟩
set_option maxRecDepth 100000 in
set_option maxHeartbeats 2000000 in
theorem back_not (s t : ByteArray) (w : World) (ht : Tab w) (h1 : s.size ≤ 2000) (h2 : t.size ≤ 2000) (h : ¬ Hx.Text t.data.toList) : Calls Tryd.prog 4 #[.string s, .string t] w (Gives (.bool true) w) := by
  have T0 := Lib.hid ht; clear ht
  obtain ⟨X, PA, RA⟩ := print_then s (by omega)
  have PB : ∀ w, Tab w → Calls Tryd.prog 6 #[.string t] w (Gives (.tuple #[.string ⟨#[]⟩, .int .i64 3]) w) := fun w hw => parse_not t w hw (by omega) h
  clear h
  have HPA := Lib.hid PA; clear PA
  have HRA := Lib.hid RA; clear RA
  have HPB := Lib.hid PB; clear PB
  have n1 : ¬ 2000 < (s.size : Int) := by omega
  have n2 : ¬ 2000 < (t.size : Int) := by omega
  go_enter Tryd.func4, Tryd.ntmps4
  go_wp2_with fail
  with_reducible refine (HPA.out _ T0.out).mono ?_
  rintro e w1 ⟨rfl, hb1⟩
  have T1 := Lib.hid (T0.out.next hb1)
  have B1 := Lib.hid hb1; clear hb1
  go_wp2_with fail
  with_reducible refine (HRA.out _ T1.out).mono ?_
  rintro e w2 ⟨rfl, hb1⟩
  have T2 := Lib.hid (T1.out.next hb1)
  have B2 := Lib.hid (B1.out.trans (hb1.mono B1.out.size)); clear hb1
  go_wp2_with fail
  with_reducible refine (HPB.out _ T2.out).mono ?_
  rintro e w3 ⟨rfl, hb1⟩
  have T3 := Lib.hid (T2.out.next hb1)
  have B3 := Lib.hid (B2.out.trans (hb1.mono B2.out.size)); clear hb1
  go_wp2_with fail
  with_reducible refine (awake_any _ T3.out).mono ?_
  rintro e w5 ⟨rfl, hb1⟩
  have B5 := Lib.hid (B3.out.trans (hb1.mono B3.out.size)); clear hb1
  go_wp2
  go_ret
  exact ⟨rfl, B5.out⟩
/-- ████ HexaBack. ████ -/
theorem back_walk (s t : ByteArray) (w : World) (hs : s.size ≤ maxLen) (hl : t.size ≤ maxLen) (ht : Tab w) : Calls Tryd.prog 4 #[.string s, .string t] w (Gives (.bool true) w) := by
  by_cases h1 : 2000 < s.size
  · exact back_long s t w ht (.inl h1) hs hl
  · by_cases h2 : 2000 < t.size
    · exact back_long s t w ht (.inr ⟨h1, h2⟩) hs hl
    · by_cases h : Hx.Text t.data.toList
      · exact back_text s t w ht (by omega) (by omega) h
      · exact back_not s t w ht (by omega) (by omega) h
end Go.Proofs.YtombholjbcnncaaDoor
