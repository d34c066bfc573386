/-
  The walk of the document's own Parse. By an AI agent.
-/
import Derived.Test.YtfbhoakolcolbaaDoorRef
import Derived.Lib.IndexBytes
namespace Go.Proofs.YtfbhoakolcolbaaDoor
open Go.RowKit
def RParse (l : List UInt8) (a b : Int) (w : World) (e : Ending) (w' : World) : Prop := e = .returned (.tuple #[.int .i64 (Dg.parseV l a b), .int .i64 (Dg.parseE l a b)]) ∧ w = w'
theorem rparse_of {l : List UInt8} {a b : Int} {w : World} {v e : Int} (h : Dg.parseV l a b = v ∧ Dg.parseE l a b = e) : RParse l a b w (.returned (.tuple #[.int .i64 v, .int .i64 e])) w := by
  unfold RParse; rw [h.1, h.2]; exact ⟨rfl, rfl⟩
theorem rp_next {t : ByteArray} {k : Nat} {a : Int} (hwf : Dg.wfB t.data.toList = true) (h18 : t.data.toList.length ≤ 18) (hk : k < t.size) (ha : a = (Dg.val (t.data.toList.take k) : Int)) :
    (Dg.val (t.data.toList.take (k + 1)) : Int) = 10 * a + ((t[k].toNat : Int) - 48) ∧ 48 ≤ (t[k].toNat : Int) ∧ (t[k].toNat : Int) ≤ 57 ∧ 10 * a + ((t[k].toNat : Int) - 48) ≤ 999999999999999999 := by
  have h1 := Dg.word18 hwf h18
  have h2 := Dg.val_take_le t.data.toList (k + 1)
  obtain ⟨h3, h4, h5, _⟩ := rw_next hwf hk ha (by omega)
  exact ⟨h3, h4, h5, by omega⟩
set_option maxRecDepth 100000 in
set_option maxHeartbeats 800000 in
theorem rparse_plain (s : ByteArray) (a b : Int) (w : World) (hs : s.size ≤ maxLen) (hpos : 0 < s.size) (hq : ((s[0].toNat : Int) == 45) = false) (hsg : Dg.signed s.data.toList = false)
   (hwf : Dg.wfB s.data.toList = true) (h18 : s.size ≤ 18) :
    Calls Tryd.prog 7 #[.string s, .int .i64 a, .int .i64 b] w (RParse s.data.toList a b w) := by
  have hc : ∀ w, Calls Tryd.prog 17 #[.string s] w (Tells true w) := fun w => hwf ▸ digits_any s w hs
  have Hc := Lib.hid hc; clear hc
  have Hwf := Lib.hid hwf; clear hwf
  have Hsg := Lib.hid hsg; clear hsg
  unfold maxLen at hs
  go_enter Tryd.func7, Tryd.ntmps7
  go_wp2_with (go_at_call 17; refine (Hc.out _).mono ?_; rintro e w' ⟨rfl, rfl⟩)
  go_loop [9, 10] (fun a i => ∃ (k : Nat) (n : Int), k ≤ s.size ∧ 0 ≤ n ∧ n ≤ 999999999999999999 ∧ i = .int .i64 k ∧ a = .int .i64 n ∧ n = (Dg.val (s.data.toList.take k) : Int)) (fun _ i => s.size - (intOf i).toNat)
  case atStart => exact ⟨0, 0, Nat.zero_le _, Int.le_refl _, by decide, rfl, rfl, by simp [Dg.val]⟩
  case round =>
    obtain ⟨k, n, hk, hn0, hn1, rfl, rfl, hn⟩ := hrel
    have Hn := Lib.hid hn; clear hn
    by_cases hlt : k < s.size
    · obtain ⟨e1, e2, e3, e4⟩ := rp_next Hwf.out (by rw [rba_len]; exact h18) hlt Hn.out
      have He := Lib.hid e1; clear e1
      go_wp2
      go_round
      case rel => exact ⟨k + 1, _, by omega, by omega, by omega, by go_num, rfl, He.out.symm⟩
      case measure => simp [intOf]; omega
    · have hal : s.data.toList.take k = s.data.toList := List.take_of_length_le (by rw [rba_len]; omega)
      have HN : Hid (n = Dg.num s.data.toList) := by
        rw [hal] at Hn
        have := Hn.out
        unfold Hid
        rw [Dg.num_plain Hsg.out, Dg.body_plain Hsg.out]; exact this
      have Hok : Hid (Dg.parseOk s.data.toList = true) := Dg.ok_plain Hsg.out (by rw [Dg.body_plain Hsg.out]; exact Hwf.out) (by rw [Dg.body_plain Hsg.out, rba_len]; exact h18)
      clear hal
      go_wp2
      · go_ret2
        exact rparse_of (Dg.parse_out Hok.out (by rw [← HN.out]; omega))
      · go_ret2
        refine rparse_of ?_
        rw [HN.out]
        exact Dg.parse_in Hok.out (by rw [← HN.out]; omega) (by rw [← HN.out]; omega)
      · go_ret2
        exact rparse_of (Dg.parse_out Hok.out (by rw [← HN.out]; omega))
set_option maxRecDepth 100000 in
set_option maxHeartbeats 400000 in
theorem rparse_none (s : ByteArray) (a b : Int) (w : World) (hs : s.size ≤ maxLen) (h0 : (s.size : Int) ≤ 0) :
    Calls Tryd.prog 7 #[.string s, .int .i64 a, .int .i64 b] w (RParse s.data.toList a b w) := by
  have hz : s.data.toList.length = 0 := by rw [rba_len]; omega
  have hnil : s.data.toList = [] := List.length_eq_zero_iff.mp hz
  have hwf : Dg.wfB s.data.toList = false := Dg.wf_none hz
  have hc : ∀ w, Calls Tryd.prog 17 #[.string s] w (Tells false w) := fun w => hwf ▸ digits_any s w hs
  have Hc := Lib.hid hc; clear hc
  have HW : Hid (Dg.parseV s.data.toList a b = 0 ∧ Dg.parseE s.data.toList a b = 3) := by
    refine Dg.parse_bad (Dg.ok_no ?_)
    rw [hnil]
    decide
  clear hz hnil hwf
  unfold maxLen at hs
  go_enter Tryd.func7, Tryd.ntmps7
  go_wp2_with (go_at_call 17; refine (Hc.out _).mono ?_; rintro e w' ⟨rfl, rfl⟩)
  go_ret2
  exact rparse_of HW.out
set_option maxRecDepth 100000 in
set_option maxHeartbeats 400000 in
theorem rparse_plain_bad (s : ByteArray) (a b : Int) (w : World) (hs : s.size ≤ maxLen) (hpos : 0 < s.size) (hq : ((s[0].toNat : Int) == 45) = false) (hsg : Dg.signed s.data.toList = false)
   (hwf : Dg.wfB s.data.toList = false) :
    Calls Tryd.prog 7 #[.string s, .int .i64 a, .int .i64 b] w (RParse s.data.toList a b w) := by
  have hc : ∀ w, Calls Tryd.prog 17 #[.string s] w (Tells false w) := fun w => hwf ▸ digits_any s w hs
  have Hc := Lib.hid hc; clear hc
  have HW : Hid (Dg.parseV s.data.toList a b = 0 ∧ Dg.parseE s.data.toList a b = 3) := Dg.parse_bad (Dg.ok_no (by rw [Dg.body_plain hsg]; exact hwf))
  clear hsg hwf
  unfold maxLen at hs
  go_enter Tryd.func7, Tryd.ntmps7
  go_wp2_with (go_at_call 17; refine (Hc.out _).mono ?_; rintro e w' ⟨rfl, rfl⟩)
  go_ret2
  exact rparse_of HW.out
set_option maxRecDepth 100000 in
set_option maxHeartbeats 400000 in
theorem rparse_plain_long (s : ByteArray) (a b : Int) (w : World) (hs : s.size ≤ maxLen) (hpos : 0 < s.size) (hq : ((s[0].toNat : Int) == 45) = false) (hsg : Dg.signed s.data.toList = false)
   (hwf : Dg.wfB s.data.toList = true) (h18 : 18 < (s.size : Int)) :
    Calls Tryd.prog 7 #[.string s, .int .i64 a, .int .i64 b] w (RParse s.data.toList a b w) := by
  have hc : ∀ w, Calls Tryd.prog 17 #[.string s] w (Tells true w) := fun w => hwf ▸ digits_any s w hs
  have Hc := Lib.hid hc; clear hc
  have HW : Hid (Dg.parseV s.data.toList a b = 0 ∧ Dg.parseE s.data.toList a b = 3) := Dg.parse_bad (Dg.ok_long (by rw [Dg.body_plain hsg, rba_len]; omega))
  clear hsg hwf
  unfold maxLen at hs
  go_enter Tryd.func7, Tryd.ntmps7
  go_wp2_with (go_at_call 17; refine (Hc.out _).mono ?_; rintro e w' ⟨rfl, rfl⟩)
  go_ret2
  exact rparse_of HW.out
/-- What stands behind the sign. -/
theorem cut_is (s : ByteArray) (hsg : Dg.signed s.data.toList = true) : (s.extract 1 s.size).data.toList = Dg.body s.data.toList ∧ (s.extract 1 s.size).size = s.size - 1 := by
  have h1 : (s.extract 1 s.size).data.toList = s.data.toList.drop 1 := Lib.extract_to_end s 1
  refine ⟨by rw [h1, Dg.body_signed hsg], ?_⟩
  rw [← rba_len, h1, List.length_drop, rba_len]
set_option maxRecDepth 100000 in
set_option maxHeartbeats 400000 in
theorem rparse_signed_bad (s : ByteArray) (a b : Int) (w : World) (hs : s.size ≤ maxLen) (hpos : 0 < s.size) (hq : ((s[0].toNat : Int) == 45) = true) (hsg : Dg.signed s.data.toList = true)
   (hwf : Dg.wfB (Dg.body s.data.toList) = false) :
    Calls Tryd.prog 7 #[.string s, .int .i64 a, .int .i64 b] w (RParse s.data.toList a b w) := by
  obtain ⟨k1, k2⟩ := cut_is s hsg
  have hc : ∀ w, Calls Tryd.prog 17 #[.string (s.extract 1 s.size)] w (Tells false w) := fun w => by
    have h := digits_any (s.extract 1 s.size) w (by omega)
    rw [k1, hwf] at h
    exact h
  have Hc := Lib.hid hc; clear hc
  have HW : Hid (Dg.parseV s.data.toList a b = 0 ∧ Dg.parseE s.data.toList a b = 3) := Dg.parse_bad (Dg.ok_no hwf)
  clear hsg hwf k1 k2
  unfold maxLen at hs
  go_enter Tryd.func7, Tryd.ntmps7
  go_wp2_with (go_at_call 17; refine (Hc.out _).mono ?_; rintro e w' ⟨rfl, rfl⟩)
  go_ret2
  exact rparse_of HW.out
set_option maxRecDepth 100000 in
set_option maxHeartbeats 400000 in
theorem rparse_signed_long (s : ByteArray) (a b : Int) (w : World) (hs : s.size ≤ maxLen) (hpos : 0 < s.size) (hq : ((s[0].toNat : Int) == 45) = true) (hsg : Dg.signed s.data.toList = true)
   (hwf : Dg.wfB (Dg.body s.data.toList) = true) (h18 : 18 < (Dg.body s.data.toList).length) :
    Calls Tryd.prog 7 #[.string s, .int .i64 a, .int .i64 b] w (RParse s.data.toList a b w) := by
  obtain ⟨k1, k2⟩ := cut_is s hsg
  obtain ⟨t, ht⟩ : ∃ t, s.extract 1 s.size = t := ⟨_, rfl⟩
  rw [ht] at k1 k2
  have hc : ∀ w, Calls Tryd.prog 17 #[.string t] w (Tells true w) := fun w => by
    have h := digits_any t w (by omega)
    rw [k1, hwf] at h
    exact h
  have Hc := Lib.hid hc; clear hc
  have HW : Hid (Dg.parseV s.data.toList a b = 0 ∧ Dg.parseE s.data.toList a b = 3) := Dg.parse_bad (Dg.ok_long h18)
  have h18' : 18 < (t.size : Int) := by rw [← rba_len, k1]; omega
  have ht1 : t.size < s.size := by omega
  clear hsg hwf k1 k2 h18
  unfold maxLen at hs
  go_enter Tryd.func7, Tryd.ntmps7
  go_wp2_with (go_at_call 17; refine (Hc.out _).mono ?_; rintro e w' ⟨rfl, rfl⟩)
  go_ret2
  exact rparse_of HW.out
set_option maxRecDepth 100000 in
set_option maxHeartbeats 800000 in
theorem rparse_signed (s : ByteArray) (a b : Int) (w : World) (hs : s.size ≤ maxLen) (hpos : 0 < s.size) (hq : ((s[0].toNat : Int) == 45) = true) (hsg : Dg.signed s.data.toList = true)
   (hwf : Dg.wfB (Dg.body s.data.toList) = true) (h18 : (Dg.body s.data.toList).length ≤ 18) :
    Calls Tryd.prog 7 #[.string s, .int .i64 a, .int .i64 b] w (RParse s.data.toList a b w) := by
  obtain ⟨k1, k2⟩ := cut_is s hsg
  obtain ⟨t, ht⟩ : ∃ t, s.extract 1 s.size = t := ⟨_, rfl⟩
  rw [ht] at k1 k2
  have hc : ∀ w, Calls Tryd.prog 17 #[.string t] w (Tells true w) := fun w => by
    have h := digits_any t w (by omega)
    rw [k1, hwf] at h
    exact h
  have Hc := Lib.hid hc; clear hc
  have Hk1 := Lib.hid k1
  have Hwf : Hid (Dg.wfB t.data.toList = true) := by rw [k1]; exact hwf
  have Hsg := Lib.hid hsg; clear hsg
  have ht18 : t.size ≤ 18 := by rw [← rba_len, k1]; exact h18
  have ht1 : t.size < s.size := by omega
  have Hwb := Lib.hid hwf; clear hwf
  have H18 := Lib.hid h18; clear h18
  clear k1 k2
  unfold maxLen at hs
  go_enter Tryd.func7, Tryd.ntmps7
  go_wp2_with (go_at_call 17; refine (Hc.out _).mono ?_; rintro e w' ⟨rfl, rfl⟩)
  go_loop [9, 10] (fun a i => ∃ (k : Nat) (n : Int), k ≤ t.size ∧ 0 ≤ n ∧ n ≤ 999999999999999999 ∧ i = .int .i64 k ∧ a = .int .i64 n ∧ n = (Dg.val (t.data.toList.take k) : Int)) (fun _ i => t.size - (intOf i).toNat)
  case atStart => exact ⟨0, 0, Nat.zero_le _, Int.le_refl _, by decide, rfl, rfl, by simp [Dg.val]⟩
  case round =>
    clear ht
    obtain ⟨k, n, hk, hn0, hn1, rfl, rfl, hn⟩ := hrel
    have Hn := Lib.hid hn; clear hn
    by_cases hlt : k < t.size
    · obtain ⟨e1, e2, e3, e4⟩ := rp_next Hwf.out (by rw [rba_len]; exact ht18) hlt Hn.out
      have He := Lib.hid e1; clear e1
      go_wp2
      go_round
      case rel => exact ⟨k + 1, _, by omega, by omega, by omega, by go_num, rfl, He.out.symm⟩
      case measure => simp [intOf]; omega
    · have hal : t.data.toList.take k = t.data.toList := List.take_of_length_le (by rw [rba_len]; omega)
      have HV : Hid (n = (Dg.val (Dg.body s.data.toList) : Int)) := by
        have := Hn.out
        rw [hal, Hk1.out] at this
        exact this
      have HN : Hid (-n = Dg.num s.data.toList) := by
        unfold Hid
        rw [Dg.num_signed Hsg.out, HV.out]
      clear hal
      by_cases hz : n = 0
      · have HW : Hid (Dg.parseV s.data.toList a b = 0 ∧ Dg.parseE s.data.toList a b = 3) := Dg.parse_bad (Dg.ok_zero Hsg.out (by have := HV.out; omega))
        have hb : (n == 0) = true := by rw [beq_iff_eq]; exact hz
        clear hz
        go_wp2
        go_ret2
        exact rparse_of HW.out
      · have Hok : Hid (Dg.parseOk s.data.toList = true) := Dg.ok_signed Hwb.out H18.out (by have := HV.out; omega)
        have hb : (n == 0) = false := by rw [beq_eq_false_iff_ne]; exact hz
        clear hz
        go_wp2
        · go_ret2
          exact rparse_of (Dg.parse_out Hok.out (by rw [← HN.out]; omega))
        · go_ret2
          refine rparse_of ?_
          rw [HN.out]
          exact Dg.parse_in Hok.out (by rw [← HN.out]; omega) (by rw [← HN.out]; omega)
        · go_ret2
          exact rparse_of (Dg.parse_out Hok.out (by rw [← HN.out]; omega))
theorem signed_iff (s : ByteArray) (hpos : 0 < s.size) : ((s[0].toNat : Int) == 45) = Dg.signed s.data.toList := by
  unfold Dg.signed
  rw [rba_getElem s 0 hpos, List.getD_eq_getElem?_getD, List.getElem?_eq_getElem (by rw [rba_len]; exact hpos), Option.getD_some, Bool.eq_iff_iff, beq_iff_eq, beq_iff_eq]
  constructor
  · intro h; exact UInt8.toNat_inj.mp (by have : (45 : UInt8).toNat = 45 := rfl
                                          omega)
  · intro h; rw [h]; rfl
/-- ████ the document's Parse, at every text. ████ -/
theorem rparse_any (s : ByteArray) (a b : Int) (w : World) (hs : s.size ≤ maxLen) :
    Calls Tryd.prog 7 #[.string s, .int .i64 a, .int .i64 b] w (RParse s.data.toList a b w) := by
  by_cases h0 : s.size = 0
  · exact rparse_none s a b w hs (by omega)
  · have hpos : 0 < s.size := by omega
    have hi := signed_iff s hpos
    cases hsg : Dg.signed s.data.toList with
    | false =>
      rw [hsg] at hi
      cases hwf : Dg.wfB s.data.toList with
      | false => exact rparse_plain_bad s a b w hs hpos hi hsg hwf
      | true =>
        by_cases h18 : s.size ≤ 18
        · exact rparse_plain s a b w hs hpos hi hsg hwf h18
        · exact rparse_plain_long s a b w hs hpos hi hsg hwf (by omega)
    | true =>
      rw [hsg] at hi
      cases hwf : Dg.wfB (Dg.body s.data.toList) with
      | false => exact rparse_signed_bad s a b w hs hpos hi hsg hwf
      | true =>
        by_cases h18 : (Dg.body s.data.toList).length ≤ 18
        · exact rparse_signed s a b w hs hpos hi hsg hwf h18
        · exact rparse_signed_long s a b w hs hpos hi hsg hwf (by omega)
end Go.Proofs.YtfbhoakolcolbaaDoor
