/-
  The walks of Of, Block, Mark, Make and Again, and of the document's. By an AI agent.
-/
import Derived.Test.YtddpfpodhkdjjaaChecked
import Derived.Test.YtddpfpodhkdjjaaTagMath
import Derived.WalkKit
import Derived.WalkSpells
import Derived.WalkLawsBesides
import Derived.WalkMore
import Derived.Below
import Derived.Lib.Hide
import Derived.IntWalk
import Derived.Laws.StructEq
set_option linter.unusedSimpArgs false
set_option linter.unusedVariables false
namespace Go.Proofs.Ytddpfpodhkdjjaa
open Go.RowKit
theorem ret_int {k : IntKind} {a b : Int} (h : a = b) : Ending.returned (.int k a) = .returned (.int k b) := by rw [h]
theorem ret_bool {a b : Bool} (h : a = b) : Ending.returned (.bool a) = .returned (.bool b) := by rw [h]
theorem below_then {a b c : World} (h : Below a.heap.size a b) (k : Below b.heap.size b c) : Below a.heap.size a c := h.trans (k.mono h.size)
theorem wrap64_small {x : Int} (h0 : -9223372036854775808 ≤ x) (h1 : x ≤ 9223372036854775807) : wrap64 x = x := by unfold wrap64; omega
theorem u64_wrap (x : Int) : IntKind.u64.wrap x = x % 18446744073709551616 := by
  simp [IntKind.wrap, IntKind.bits, IntKind.signed]
/-- It returns v, and what was there lies as it lay. -/
def Gives (v : Value) (w : World) (e : Ending) (w' : World) : Prop := e = .returned v ∧ Below w.heap.size w w'
def Same (v : Value) (w : World) (e : Ending) (w' : World) : Prop := e = .returned v ∧ w = w'
set_option maxHeartbeats 1000000 in
theorem of_any (x : Int) (w : World) (h0 : 0 ≤ x) (h1 : x ≤ 18446744073709551615) : Calls Try.prog 6 #[.int .u64 x] w (Gives (.agg #[.int .u64 (x / 8), .int .i64 (x % 8)]) w) := by
  go_enter Try.func6, Try.ntmps6
  go_wp2
  exact bodyPost_ret (v := .agg #[.int .u64 (x / 8), .int .i64 (x % 8)]) (by simp [results, Try.results6, go_sem]) rfl ⟨rfl, (Below.refl _ _).alloc (Nat.le_refl _) _⟩
set_option maxHeartbeats 1000000 in
theorem rblock_any (x : Int) (w : World) (h0 : 0 ≤ x) (h1 : x ≤ 18446744073709551615) : Calls Try.prog 7 #[.int .u64 x] w (Same (.int .u64 (x / 8)) w) := by
  go_enter Try.func7, Try.ntmps7
  go_wp2
  go_ret
  exact ⟨rfl, rfl⟩
set_option maxHeartbeats 1000000 in
theorem rmark_any (x : Int) (w : World) (h0 : 0 ≤ x) (h1 : x ≤ 18446744073709551615) : Calls Try.prog 8 #[.int .u64 x] w (Same (.int .i64 (x % 8)) w) := by
  go_enter Try.func8, Try.ntmps8
  go_wp2
  go_ret
  exact ⟨rfl, rfl⟩
set_option maxHeartbeats 1000000 in
theorem make_any (b m : Int) (w : World) (h0 : 0 ≤ b) (h1 : b ≤ 18446744073709551615) (m0 : -9223372036854775808 ≤ m) (m1 : m ≤ 9223372036854775807) : Calls Try.prog 11 #[.int .u64 b, .int .i64 m] w (Same (.int .u64 (Tg.mk b m)) w) := by
  go_enter Try.func11, Try.ntmps11
  go_wp2
  go_ret
  refine ⟨ret_int ?_, rfl⟩
  have e : IntKind.u64.wrap m = m % 18446744073709551616 := u64_wrap m
  rw [e, Int.tmod_eq_emod_of_nonneg (by omega), u64_wrap, u64_wrap]
  unfold Tg.mk
  omega
set_option maxHeartbeats 1000000 in
theorem rmake_any (b m : Int) (w : World) (h0 : 0 ≤ b) (h1 : b ≤ 18446744073709551615) (m0 : -9223372036854775808 ≤ m) (m1 : m ≤ 9223372036854775807) : Calls Try.prog 12 #[.int .u64 b, .int .i64 m] w (Same (.int .u64 (Tg.mk b m)) w) := by
  by_cases k : m.tmod 8 < 0
  · go_enter Try.func12, Try.ntmps12
    go_wp2
    go_ret
    refine ⟨ret_int ?_, rfl⟩
    have e := Tg.tmod_neg k
    rw [wrap64_small (by omega) (by omega), u64_wrap, u64_wrap, u64_wrap]
    unfold Tg.mk
    omega
  · go_enter Try.func12, Try.ntmps12
    go_wp2
    go_ret
    refine ⟨ret_int ?_, rfl⟩
    have e := Tg.tmod_pos k
    rw [u64_wrap, u64_wrap, u64_wrap]
    unfold Tg.mk
    omega
theorem fld0 (b m : Int) : ∀ w : World, (Instr.field 24 (.agg #[.int .u64 b, .int .i64 m]) 0).run Try.prog w = .ok (.int .u64 b) w := fun _ => by kernel_rfl
theorem fld1 (b m : Int) : ∀ w : World, (Instr.field 24 (.agg #[.int .u64 b, .int .i64 m]) 1).run Try.prog w = .ok (.int .i64 m) w := fun _ => by kernel_rfl
set_option maxHeartbeats 1000000 in
theorem block_any (x : Int) (w : World) (h0 : 0 ≤ x) (h1 : x ≤ 18446744073709551615) : Calls Try.prog 9 #[.int .u64 x] w (Gives (.int .u64 (x / 8)) w) := by
  have K := Lib.hid fun w => of_any x w h0 h1
  have hf := fld0 (x / 8) (x % 8)
  go_enter Try.func9, Try.ntmps9
  go_wp2_with fail
  with_reducible refine (K.out _).mono ?_
  rintro e w1 ⟨rfl, hb⟩
  go_wp2
  go_ret
  exact ⟨rfl, hb⟩
set_option maxHeartbeats 1000000 in
theorem mark_any (x : Int) (w : World) (h0 : 0 ≤ x) (h1 : x ≤ 18446744073709551615) : Calls Try.prog 10 #[.int .u64 x] w (Gives (.int .i64 (x % 8)) w) := by
  have K := Lib.hid fun w => of_any x w h0 h1
  have hf := fld1 (x / 8) (x % 8)
  go_enter Try.func10, Try.ntmps10
  go_wp2_with fail
  with_reducible refine (K.out _).mono ?_
  rintro e w1 ⟨rfl, hb⟩
  go_wp2
  go_ret
  exact ⟨rfl, hb⟩
set_option maxHeartbeats 1000000 in
theorem again_any (x m : Int) (w : World) (h0 : 0 ≤ x) (h1 : x ≤ 18446744073709551615) (m0 : -9223372036854775808 ≤ m) (m1 : m ≤ 9223372036854775807) : Calls Try.prog 20 #[.int .u64 x, .int .i64 m] w (Gives (.int .u64 (Tg.mk (x / 8) m)) w) := by
  have K := Lib.hid fun w => block_any x w h0 h1
  have M := Lib.hid fun w => make_any (x / 8) m w (by omega) (by omega) m0 m1
  go_enter Try.func20, Try.ntmps20
  go_wp2_with fail
  with_reducible refine (K.out _).mono ?_
  rintro e w1 ⟨rfl, hb⟩
  go_wp2_with fail
  with_reducible refine (M.out _).mono ?_
  rintro e w2 ⟨rfl, rfl⟩
  go_wp2
  go_ret
  exact ⟨rfl, hb⟩
set_option maxHeartbeats 1000000 in
theorem ragain_any (x m : Int) (w : World) (h0 : 0 ≤ x) (h1 : x ≤ 18446744073709551615) (m0 : -9223372036854775808 ≤ m) (m1 : m ≤ 9223372036854775807) : Calls Try.prog 21 #[.int .u64 x, .int .i64 m] w (Same (.int .u64 (Tg.mk (x / 8) m)) w) := by
  have M := Lib.hid fun w => rmake_any (x / 8) m w (by omega) (by omega) m0 m1
  go_enter Try.func21, Try.ntmps21
  go_wp2_with fail
  with_reducible refine (M.out _).mono ?_
  rintro e w2 ⟨rfl, rfl⟩
  go_wp2
  go_ret
  exact ⟨rfl, rfl⟩
end Go.Proofs.Ytddpfpodhkdjjaa
