/-
  The walks of Print and Show, by the library's contracts. By an AI agent.
-/
import Derived.Test.YthgabbkpjffdnaaDoorDigitRefText
import Derived.Test.YthgabbkpjffdnaaDoorShelf
import Derived.Lib.AppendIntMem
import Derived.WalkSmall
import Derived.BigCall
import Derived.BigGuard
namespace Go.Proofs.YthgabbkpjffdnaaDoor.Dt
open Go.RowKit Go.Sort Go.Lib
/-- The library's table of powers of ten, as its own text lays it. -/
abbrev Pow (w : World) : Prop := Lib.TabIs Tryd.prog w "internal/strconv.uint64pow10" .u64 Lib.pow10Tab
theorem gPow : Tryd.prog.globalNamed "internal/strconv.uint64pow10" = some 2 := by kernel_rfl
theorem Pow.below {w w' : World} (h : Pow w) (hb : Below w.heap.size w w') : Pow w' := by
  unfold Pow Lib.TabIs World.var? at h ⊢
  rw [gPow] at h ⊢
  simp only [Option.bind_some] at h ⊢
  have hlt : 2 < w.heap.size := by
    rcases Nat.lt_or_ge 2 w.heap.size with h' | h'
    · exact h'
    · rw [Array.getElem?_eq_none h'] at h; cases h
  rw [hb.block 2 hlt]
  exact h
theorem below_grow (w : World) (k : Nat) (os : Array Obj) : Below w.heap.size w (grow (w.drewN k) os) :=
  ⟨rfl, rfl, rfl, by simp, fun g hg => Lib.heap_grow_old w k os g hg⟩
set_option maxRecDepth 100000 in
set_option maxHeartbeats 400000 in
/-- ████ Print. ████ -/
theorem print_any (n : Int) (h0 : -9223372036854775808 ≤ n) (h1 : n ≤ 9223372036854775807) (w : World) (hp : Pow w) : Calls Tryd.prog 47 #[.int .i64 n] w (Text (Lib.itoa n) w) := by
  have Hp := Lib.hid hp; clear hp
  go_enter Tryd.func47, Tryd.ntmps47
  go_wp2_with (go_at_call 64; refine (Tryd.strconv_Itoa n h0 h1 _ Hp.out).mono ?_; rintro e w' ⟨rfl, k, os, rfl⟩)
  go_ret
  exact text_of rfl (below_grow w k os)
theorem holds_zero0 (w : World) (T : TypeId) (nd : Nat) (hs : nd ≤ 24) : Holds (fun (b : UInt8) => Value.int .u8 (b.toNat : Int)) (w.alloc (.cells zeros24 T)) w.heap.size 0 (Array.replicate nd (0 : UInt8)) := fun j hj => by
  have hj' : j < nd := by simpa using hj
  refine ⟨?_, World.frozen?_alloc_new _ _ _ _⟩
  rw [World.cell?_alloc_new, zeros24_at _ (by omega), getElem!_pos _ j hj]
  simp
set_option maxRecDepth 100000 in
set_option maxHeartbeats 1000000 in
theorem fmt_small (i : Nat) (h : i < 100) (w : World) : Calls Tryd.prog 72 #[.int .u64 (i : Int), .int .i64 10] w (Text (Lib.decDigits i) w) := by
  go_enter Tryd.func72, Tryd.ntmps72
  go_wp2_with (go_at_call 91; refine (Tryd.internal_strconv_small i h _).mono ?_; rintro e w' ⟨rfl, rfl⟩)
  go_ret
  exact text_of rfl (Below.refl _ _)
set_option maxRecDepth 100000 in
set_option maxHeartbeats 2000000 in
theorem fmt_big (u : Nat) (hu1 : 100 ≤ u) (hu64 : u < 18446744073709551616) (w : World) (hp : Pow w) : Calls Tryd.prog 72 #[.int .u64 (u : Int), .int .i64 10] w (Text (Lib.decDigits u) w) := by
  have Hp := Lib.hid hp; clear hp
  have hu0 : 1 ≤ u := by omega
  have hnd20 : Lib.nDigits u ≤ 20 := by have := Lib.numDigits_eq u hu0 hu64; split at this <;> omega
  have hal : Tryd.prog.arrayLen 123 = 24 := by kernel_rfl
  have hsl : ∀ W, (Instr.sliceAt 123 (.pointer (some ⟨w.heap.size, 0, none⟩)) none (some (.int .i64 (Lib.nDigits u : Int))) none).run Tryd.prog W = .ok (.slice (some ⟨w.heap.size, 0, none⟩) (Lib.nDigits u) 24) W := fun W => by
    rw [run_sliceAt_array_h W 123 ⟨w.heap.size, 0, none⟩ (by simp [Program.arrayLen, Program.elem, Tryd.underlying123]) .i64 (Lib.nDigits u : Int) (by omega) (by rw [hal]; omega)]
    go_simp
  have hH0 := holds_zero0 w 123 (Lib.nDigits u) (by omega)
  have hfmt := Tryd.internal_strconv_formatBase10 w.heap.size 0 24 u (Array.replicate (Lib.nDigits u) 0) (w.alloc (.cells Lib.zeros24 123)) hH0 (by rw [Array.size_replicate]; exact Lib.lt_pow_nDigits u) hu64 (by rw [Array.size_replicate]; omega)
  rw [Array.size_replicate] at hfmt
  have HH0 := Lib.hid hH0
  have Hfmt := Lib.hid hfmt
  clear hH0 hal hfmt
  go_enter Tryd.func72, Tryd.ntmps72
  go_wp2_with (first
    | (go_at_call 92; refine (Tryd.internal_strconv_numDigits u hu0 hu64 _ (Lib.tabIs_alloc Hp.out _)).mono ?_; rintro e w' ⟨rfl, rfl⟩))
  refine Hfmt.out.mono ?_
  rintro e w' ⟨rfl, k, v', dk, rfl, hF⟩
  have HF := Lib.hid hF; clear hF
  have hcv : (convert 48 9 (.slice (some ⟨w.heap.size, 0, none⟩) (Lib.nDigits u) 24)).run Tryd.prog ((putRow (fun (b : UInt8) => Value.int .u8 (b.toNat : Int)) (w.alloc (.cells Lib.zeros24 123)) w.heap.size 0 dk).drewN k) = .ok (.string ⟨(Lib.decDigits u).toArray⟩) ((putRow (fun (b : UInt8) => Value.int .u8 (b.toNat : Int)) (w.alloc (.cells Lib.zeros24 123)) w.heap.size 0 dk).drewN k) := by
    have h := run_convert_bytes_back (P := Tryd.prog) ((putRow (fun (b : UInt8) => Value.int .u8 (b.toNat : Int)) (w.alloc (.cells Lib.zeros24 123)) w.heap.size 0 dk).drewN k) 48 9 5 ⟨w.heap.size, 0, none⟩ 24 (Lib.decDigits u) Tryd.underlying48 Tryd.underlying5 Tryd.underlying9 (fun j hj => by
      rw [Lib.row_is_numeral HF.out j hj, Lib.add_plain, World.cell?_drewN]
      exact cell?_putRow (fun (b : UInt8) => Value.int .u8 (b.toNat : Int)) _ w.heap.size 0 _ dk HH0.out (by rw [HF.out.size, Array.size_replicate]) j (by rw [HF.out.size]; rw [Lib.decDigits_length] at hj; exact hj))
    rw [Lib.decDigits_length] at h
    exact h
  go_wp2
  go_ret
  obtain ⟨os, eo⟩ := Lib.fin_at w (.cells Lib.zeros24 123) dk k 0
  refine text_of rfl ?_
  have hb := below_grow w k os
  rw [← eo] at hb
  exact hb
theorem fmt_any (u : Int) (h0 : 0 ≤ u) (h1 : u ≤ 18446744073709551615) (w : World) (hp : Pow w) : Calls Tryd.prog 72 #[.int .u64 u, .int .i64 10] w (Text (Lib.decDigits u.toNat) w) := by
  obtain ⟨n, rfl⟩ := Int.eq_ofNat_of_zero_le h0
  rw [Int.toNat_natCast]
  by_cases h : n < 100
  · exact fmt_small n h w
  · exact fmt_big n (by omega) (by omega) w hp
set_option maxRecDepth 100000 in
set_option maxHeartbeats 400000 in
/-- ████ Show. ████ -/
theorem show_any (u : Int) (h0 : 0 ≤ u) (h1 : u ≤ 18446744073709551615) (w : World) (hp : Pow w) : Calls Tryd.prog 46 #[.int .u64 u] w (Text (Lib.decDigits u.toNat) w) := by
  have Hp := Lib.hid hp; clear hp
  have hi : Calls Tryd.prog 63 #[.int .u64 u, .int .i64 10] w (Text (Lib.decDigits u.toNat) w) := by
    go_enter Tryd.func63, Tryd.ntmps63
    go_wp2_with (go_at_call 72; refine (fmt_any u h0 h1 _ Hp.out).mono ?_; rintro e w' ⟨rfl, hb⟩)
    go_ret
    exact text_of rfl hb
  have Hi := Lib.hid hi; clear hi
  go_enter Tryd.func46, Tryd.ntmps46
  go_wp2_with (go_at_call 63; refine (Hi.out).mono ?_; rintro e w' ⟨rfl, hb⟩)
  go_ret
  exact text_of rfl hb
end Go.Proofs.YthgabbkpjffdnaaDoor.Dt
