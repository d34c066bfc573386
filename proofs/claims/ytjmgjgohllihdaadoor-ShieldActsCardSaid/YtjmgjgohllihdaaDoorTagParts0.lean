/-
  The walks of Of, Block, Mark, Make and Again, and of the document's. By an AI agent.
-/
import Derived.Test.YtjmgjgohllihdaaDoorDeskRight
import Derived.Test.YtjmgjgohllihdaaDoorChecked
import Derived.Test.YtjmgjgohllihdaaDoorTagMath
import Derived.WalkKit
import Derived.WalkSpells
import Derived.WalkLawsBesides
import Derived.WalkMore
import Derived.Below
import Derived.Lib.Hide
import Derived.IntWalk
import Derived.Laws.StructEq
set_option linter.unusedSimpArgs false
set_option linter.unusedVariables false
namespace Go.Proofs.YtjmgjgohllihdaaDoor
open Go.RowKit
theorem ret_bool {a b : Bool} (h : a = b) : Ending.returned (.bool a) = .returned (.bool b) := by rw [h]
theorem below_then {a b c : World} (h : Below a.heap.size a b) (k : Below b.heap.size b c) : Below a.heap.size a c := h.trans (k.mono h.size)
theorem wrap64_small {x : Int} (h0 : -9223372036854775808 ≤ x) (h1 : x ≤ 9223372036854775807) : wrap64 x = x := by unfold wrap64; omega
theorem u64_wrap (x : Int) : IntKind.u64.wrap x = x % 18446744073709551616 := by
  simp [IntKind.wrap, IntKind.bits, IntKind.signed]
set_option maxHeartbeats 1000000 in
theorem of_any (x : Int) (w : World) (h0 : 0 ≤ x) (h1 : x ≤ 18446744073709551615) : Calls Tryd.prog 43 #[.int .u64 x] w (Gives (.agg #[.int .u64 (x / 8), .int .i64 (x % 8)]) w) := by
  go_enter Tryd.func43, Tryd.ntmps43
  go_wp2
  exact bodyPost_ret (v := .agg #[.int .u64 (x / 8), .int .i64 (x % 8)]) (by simp [results, Tryd.results43, go_sem]) rfl ⟨rfl, (Below.refl _ _).alloc (Nat.le_refl _) _⟩
set_option maxHeartbeats 1000000 in
theorem rblock_any (x : Int) (w : World) (h0 : 0 ≤ x) (h1 : x ≤ 18446744073709551615) : Calls Tryd.prog 28 #[.int .u64 x] w (Same (.int .u64 (x / 8)) w) := by
  go_enter Tryd.func28, Tryd.ntmps28
  go_wp2
  go_ret
  exact ⟨rfl, rfl⟩
theorem fld0 (b m : Int) : ∀ w : World, (Instr.field 85 (.agg #[.int .u64 b, .int .i64 m]) 0).run Tryd.prog w = .ok (.int .u64 b) w := fun _ => by kernel_rfl
theorem fld1 (b m : Int) : ∀ w : World, (Instr.field 85 (.agg #[.int .u64 b, .int .i64 m]) 1).run Tryd.prog w = .ok (.int .i64 m) w := fun _ => by kernel_rfl
set_option maxHeartbeats 1000000 in
theorem block_any (x : Int) (w : World) (h0 : 0 ≤ x) (h1 : x ≤ 18446744073709551615) : Calls Tryd.prog 20 #[.int .u64 x] w (Gives (.int .u64 (x / 8)) w) := by
  have K := Lib.hid fun w => of_any x w h0 h1
  have hf := fld0 (x / 8) (x % 8)
  go_enter Tryd.func20, Tryd.ntmps20
  go_wp2_with fail
  with_reducible refine (K.out _).mono ?_
  rintro e w1 ⟨rfl, hb⟩
  go_wp2
  go_ret
  exact ⟨rfl, hb⟩
set_option maxHeartbeats 1000000 in
theorem mark_any (x : Int) (w : World) (h0 : 0 ≤ x) (h1 : x ≤ 18446744073709551615) : Calls Tryd.prog 41 #[.int .u64 x] w (Gives (.int .i64 (x % 8)) w) := by
  have K := Lib.hid fun w => of_any x w h0 h1
  have hf := fld1 (x / 8) (x % 8)
  go_enter Tryd.func41, Tryd.ntmps41
  go_wp2_with fail
  with_reducible refine (K.out _).mono ?_
  rintro e w1 ⟨rfl, hb⟩
  go_wp2
  go_ret
  exact ⟨rfl, hb⟩
end Go.Proofs.YtjmgjgohllihdaaDoor
