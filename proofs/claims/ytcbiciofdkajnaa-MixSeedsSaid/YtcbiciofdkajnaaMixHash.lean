/-
  The walks of byteAt, Hash and the document's own Hash. By an AI agent.
-/
import Derived.Test.YtcbiciofdkajnaaMixParts
import Derived.Lib.IndexBytes
namespace Go.Proofs.Ytcbiciofdkajnaa
open Go.RowKit
theorem ba_getElem (s : ByteArray) (k : Nat) (h : k < s.size) : s[k] = s.data.toList[k]'(by simpa using h) := by
  simp [ByteArray.getElem_eq_getElem_data]
theorem ba_len (s : ByteArray) : s.data.toList.length = s.size := Array.length_toList
theorem roll_next {h : Nat} {s : ByteArray} {k : Nat} (hk : k < s.size) : Mx.roll h (s.data.toList.take (k + 1)) = Mx.step (Mx.roll h (s.data.toList.take k)) s[k] := by
  rw [Mx.roll_take (by rw [ba_len]; exact hk), ba_getElem s k hk]
theorem roll_all {h : Nat} {s : ByteArray} {k : Nat} (hk : s.size ≤ k) : Mx.roll h (s.data.toList.take k) = Mx.roll h s.data.toList := by
  rw [List.take_of_length_le (by rw [ba_len]; exact hk)]
set_option maxHeartbeats 1000000 in
theorem byteAt_any (s : ByteArray) (k : Nat) (w : World) (hk : k < s.size) : Calls Try.prog 15 #[.string s, .int .i64 (k : Int)] w (Same (.int .i32 (s[k].toNat : Int)) w) := by
  go_enter Try.func15, Try.ntmps15
  have hb := s[k].toNat_lt
  go_wp2
  go_ret
  exact ⟨rfl, rfl⟩
set_option maxHeartbeats 1000000 in
theorem hash_any (h : Nat) (s : ByteArray) (w : World) (hh : h < 18446744073709551616) (hs : s.size ≤ maxLen) : Calls Try.prog 7 #[.int .u64 (h : Int), .string s] w (Same (.int .u64 (Mx.hsh h s.data.toList : Nat)) w) := by
  unfold maxLen at hs
  go_enter Try.func7, Try.ntmps7
  go_wp2
  go_loop [5, 10] (fun a i => ∃ (k n : Nat), k ≤ s.size ∧ i = .int .i64 k ∧ a = .int .u64 (n : Int) ∧ n = Mx.roll h (s.data.toList.take k)) (fun _ i => s.size - (intOf i).toNat)
  case atStart => exact ⟨0, h, Nat.zero_le _, rfl, rfl, rfl⟩
  case round =>
    obtain ⟨k, n, hk, rfl, rfl, hn⟩ := hrel
    have hnl : n < 18446744073709551616 := hn ▸ Mx.roll_lt _ hh
    have Hn := Lib.hid hn; clear hn
    by_cases hlt : k < s.size
    · have hst := Mx.bits_step (s[k]) hnl
      have hbl := s[k].toNat_lt
      have hwr : IntKind.u64.wrap (s[k].toNat : Int) = (s[k].toNat : Int) := u64_wrap_small (by omega) (by omega)
      have Hnx : Hid (Mx.step n s[k] = Mx.roll h (s.data.toList.take (k + 1))) := Lib.hid (by rw [roll_next hlt, Hn.out])
      go_wp2_with (go_at_call 15; refine (byteAt_any _ _ _ hlt).mono ?_; rintro e w' ⟨rfl, rfl⟩)
      go_round
      case rel => exact ⟨k + 1, _, by omega, by go_num, rfl, Hnx.out⟩
      case measure => simp [intOf]; omega
    · have Hall : Hid (Mx.spr n = Mx.hsh h s.data.toList) := Lib.hid (by unfold Mx.hsh; rw [Hn.out, roll_all (by omega)])
      go_wp2_with (go_at_call 16; refine (spread_any _ _ hnl).mono ?_; rintro e w' ⟨rfl, rfl⟩)
      go_ret
      exact ⟨ret_int (by rw [Hall.out]), rfl⟩
set_option maxHeartbeats 1000000 in
theorem rhash_any (h : Nat) (s : ByteArray) (w : World) (hh : h < 18446744073709551616) (hs : s.size ≤ maxLen) : Calls Try.prog 8 #[.int .u64 (h : Int), .string s] w (Same (.int .u64 (Mx.hsh h s.data.toList : Nat)) w) := by
  unfold maxLen at hs
  go_enter Try.func8, Try.ntmps8
  go_wp2
  go_loop [5, 6] (fun a i => ∃ (k n : Nat), k ≤ s.size ∧ i = .int .i64 k ∧ a = .int .u64 (n : Int) ∧ n = Mx.roll h (s.data.toList.take k)) (fun _ i => s.size - (intOf i).toNat)
  case atStart => exact ⟨0, h, Nat.zero_le _, rfl, rfl, rfl⟩
  case round =>
    obtain ⟨k, n, hk, rfl, rfl, hn⟩ := hrel
    have hnl : n < 18446744073709551616 := hn ▸ Mx.roll_lt _ hh
    have Hn := Lib.hid hn; clear hn
    by_cases hlt : k < s.size
    · have Hnx : Hid (Mx.step n s[k] = Mx.roll h (s.data.toList.take (k + 1))) := Lib.hid (by rw [roll_next hlt, Hn.out])
      have hbl := Mx.byte_lt s[k]
      have X := fun w => xor_any n s[k].toNat w hnl hbl
      have T : ∀ w, Calls Try.prog 17 #[.int .u64 ((n ^^^ s[k].toNat : Nat) : Int), .int .u64 1099511628211] w (Same (.int .u64 (Mx.step n s[k] : Nat)) w) := fun w => times_any (n ^^^ s[k].toNat) 1099511628211 w
      have HX := Lib.hid X; clear X
      have HT := Lib.hid T; clear T
      go_wp2_with fail
      with_reducible refine (HX.out _).mono ?_
      rintro e w1 ⟨rfl, rfl⟩
      go_wp2_with fail
      with_reducible refine (HT.out _).mono ?_
      rintro e w1 ⟨rfl, rfl⟩
      go_wp2
      go_round
      case rel => exact ⟨k + 1, _, by omega, by go_num, rfl, Hnx.out⟩
      case measure => simp [intOf]; omega
    · have Hall : Hid (Mx.spr n = Mx.hsh h s.data.toList) := Lib.hid (by unfold Mx.hsh; rw [Hn.out, roll_all (by omega)])
      have X1 : ∀ w, Calls Try.prog 18 #[.int .u64 (n : Int), .int .u64 ((n : Int) / 4294967296)] w (Same (.int .u64 ((n ^^^ n / 4294967296 : Nat) : Int)) w) := fun w => by
        have := xor_any n (n / 4294967296) w hnl (Mx.div_lt hnl)
        rwa [Int.natCast_ediv] at this
      have T1 : ∀ w, Calls Try.prog 17 #[.int .u64 ((n ^^^ n / 4294967296 : Nat) : Int), .int .u64 11400714819323198485] w (Same (.int .u64 (Mx.mid n : Nat)) w) := fun w => times_any (n ^^^ n / 4294967296) 11400714819323198485 w
      have X2 : ∀ w, Calls Try.prog 18 #[.int .u64 (Mx.mid n : Nat), .int .u64 ((Mx.mid n : Int) / 536870912)] w (Same (.int .u64 (Mx.spr n : Nat)) w) := fun w => by
        have := xor_any (Mx.mid n) (Mx.mid n / 536870912) w (Mx.mid_lt n) (Mx.div_lt (Mx.mid_lt n))
        rwa [Int.natCast_ediv] at this
      have ml := Mx.mid_lt n
      have HX1 := Lib.hid X1; clear X1
      have HT1 := Lib.hid T1; clear T1
      have HX2 := Lib.hid X2; clear X2
      go_wp2_with fail
      with_reducible refine (HX1.out _).mono ?_
      rintro e w1 ⟨rfl, rfl⟩
      go_wp2_with fail
      with_reducible refine (HT1.out _).mono ?_
      rintro e w1 ⟨rfl, rfl⟩
      go_wp2_with fail
      with_reducible refine (HX2.out _).mono ?_
      rintro e w1 ⟨rfl, rfl⟩
      go_wp2
      go_ret
      exact ⟨ret_int (by rw [Hall.out]), rfl⟩
end Go.Proofs.Ytcbiciofdkajnaa
