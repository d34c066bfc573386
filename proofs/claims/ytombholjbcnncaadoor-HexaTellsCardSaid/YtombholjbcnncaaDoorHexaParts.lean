/-
  The table of digits; the walks of numberOf and of the document's own digit. By an AI agent.
-/
import Derived.Test.YtombholjbcnncaaDoorChecked
import Derived.Test.YtombholjbcnncaaDoorHexaMath
import Derived.WalkKit
import Derived.WalkSpells
import Derived.WalkLawsBesides
import Derived.WalkMore
import Derived.WalkSmall
import Derived.Below
import Derived.Lib.Hide
import Derived.Lib.LaidTab
import Derived.IntWalk
import Derived.OwnWalk
import Derived.Deep.MidRow
namespace Go.Proofs.YtombholjbcnncaaDoor
open Go.RowKit
def Same (v : Value) (w : World) (e : Ending) (w' : World) : Prop := e = .returned v ∧ w = w'
def Gives (v : Value) (w : World) (e : Ending) (w' : World) : Prop := e = .returned v ∧ Below w.heap.size w w'
/-- The sixteen digits. -/
abbrev digs : List Int := [48, 49, 50, 51, 52, 53, 54, 55, 56, 57, 97, 98, 99, 100, 101, 102]
abbrev Tab (w : World) : Prop := Lib.TabIs Tryd.prog w "sprocket/hexa.digits" .u8 digs
theorem gTab : Tryd.prog.globalNamed "sprocket/hexa.digits" = some 0 := by kernel_rfl
theorem sixteen {k : Nat} (h : k < 16) : k = 0 ∨ k = 1 ∨ k = 2 ∨ k = 3 ∨ k = 4 ∨ k = 5 ∨ k = 6 ∨ k = 7 ∨ k = 8 ∨ k = 9 ∨ k = 10 ∨ k = 11 ∨ k = 12 ∨ k = 13 ∨ k = 14 ∨ k = 15 := by omega
theorem digs_at {k : Nat} (h : k < 16) : digs.getD k 0 = (Hx.dg k : Int) := by
  rcases sixteen h with rfl | rfl | rfl | rfl | rfl | rfl | rfl | rfl | rfl | rfl | rfl | rfl | rfl | rfl | rfl | rfl <;> rfl
theorem Tab.lt {w : World} (h : Tab w) : 0 < w.heap.size := by
  unfold Tab Lib.TabIs World.var? at h
  rw [gTab] at h
  simp only [Option.bind_some] at h
  rcases Nat.lt_or_ge 0 w.heap.size with h' | h'
  · exact h'
  · rw [Array.getElem?_eq_none h'] at h; cases h
theorem Tab.below {w w' : World} {B : Nat} (h : Tab w) (hb : Below B w w') (hB : 0 < B) : Tab w' := by
  unfold Tab Lib.TabIs World.var? at h ⊢
  rw [gTab] at h ⊢
  simp only [Option.bind_some] at h ⊢
  rw [hb.block 0 hB]
  exact h
theorem Tab.cell {w : World} (h : Tab w) {k : Nat} (hk : k < 16) : w.cell? ⟨0, k, none⟩ = some (.int .u8 (Hx.dg k : Int)) := by
  have := Lib.TabIs.cell h gTab k hk
  rw [this, digs_at hk]
/-- The table as a value. -/
def tab : Value := .agg #[.int .u8 48, .int .u8 49, .int .u8 50, .int .u8 51, .int .u8 52, .int .u8 53, .int .u8 54, .int .u8 55, .int .u8 56, .int .u8 57, .int .u8 97, .int .u8 98, .int .u8 99, .int .u8 100, .int .u8 101, .int .u8 102]
theorem tab_eq : tab = .agg #[.int .u8 48, .int .u8 49, .int .u8 50, .int .u8 51, .int .u8 52, .int .u8 53, .int .u8 54, .int .u8 55, .int .u8 56, .int .u8 57, .int .u8 97, .int .u8 98, .int .u8 99, .int .u8 100, .int .u8 101, .int .u8 102] := rfl
theorem size_tab : (Tryd.prog.info? 35).map (·.size) = some (digs.map (Value.int .u8)).length := by kernel_rfl
theorem range_tab {w : World} (h : Tab w) : w.rangeAt 0 0 (digs.map (Value.int .u8)) := by
  intro j v hj
  have hjl : j < 16 := (List.getElem?_eq_some_iff.1 hj).1
  rw [Nat.zero_add, h.cell hjl, ← digs_at hjl]
  rw [List.getElem?_map, List.getElem?_eq_getElem (by exact hjl)] at hj
  rw [List.getD_eq_getElem?_getD, List.getElem?_eq_getElem (by exact hjl)]
  exact hj
theorem index_tab {k : Nat} (hk : k < 16) : ∀ w : World, (Instr.index 35 tab (.int .i64 (k : Int))).run Tryd.prog w = .ok (.int .u8 (Hx.dg k : Int)) w := by
  rcases sixteen hk with rfl | rfl | rfl | rfl | rfl | rfl | rfl | rfl | rfl | rfl | rfl | rfl | rfl | rfl | rfl | rfl <;> exact fun _ => by kernel_rfl
/-- What numberOf answers. -/
def numOf (c : Nat) : Value := if Hx.nm c < 16 then .tuple #[.int .i64 (Hx.nm c : Int), .bool true] else .tuple #[.int .i64 0, .bool false]
theorem num_good {c : Nat} (h : Hx.nm c < 16) : numOf c = .tuple #[.int .i64 (Hx.nm c : Int), .bool true] := if_pos h
theorem num_bad {c : Nat} (h : ¬ Hx.nm c < 16) : numOf c = .tuple #[.int .i64 0, .bool false] := if_neg h
set_option maxRecDepth 100000 in
set_option maxHeartbeats 2000000 in
theorem number_any (c : Nat) (w : World) (ht : Tab w) : Calls Tryd.prog 10 #[.int .i32 (c : Int)] w (Same (numOf c) w) := by
  have HL := Lib.hid (range_tab ht)
  have HI := Lib.hid (fun k (hk : k < 16) => index_tab hk)
  clear ht
  go_enter Tryd.func10, Tryd.ntmps10
  go_wp2_with (with_reducible refine wpList_load_mid rfl 35 (.global 0) rfl 0 0 rfl (digs.map (Value.int .u8)) _ HL.out Tryd.underlying35 rfl size_tab ?_)
  rw [← tab_eq]
  generalize tab = T at HI ⊢
  go_loop [4, 5, 7] (fun _ _ i => ∃ k : Nat, k ≤ 16 ∧ i = .int .i64 k ∧ ∀ j, j < k → ¬ Hx.dg j = c) (fun _ _ i => 16 - (intOf i).toNat)
  case atStart => exact ⟨0, by omega, rfl, fun j hj => by omega⟩
  case round =>
    obtain ⟨k, hk, rfl, hz⟩ := hrel
    have Hz := Lib.hid hz; clear hz
    by_cases hlt : k < 16
    · have hix := HI.out k hlt
      obtain ⟨d, hd⟩ : ∃ d, d = Hx.dg k := ⟨_, rfl⟩
      have hd1 : d < 256 := by rw [hd]; exact Hx.dg_lt hlt
      rw [← hd] at hix
      have Hd := Lib.hid hd; clear hd
      by_cases h0 : d = c
      · have h0' : ((d : Int) == (c : Int)) = true := by simp [h0]
        have H0 := Lib.hid h0; clear h0
        go_wp2
        go_ret2
        have e : Hx.nm c = k := (Hx.dg_iff hlt).1 (Hd.out.symm.trans H0.out)
        refine ⟨?_, rfl⟩
        rw [num_good (by omega), e]
        rfl
      · have h0' : ((d : Int) == (c : Int)) = false := by simp; omega
        have H0 := Lib.hid h0; clear h0
        go_wp2
        go_round
        case rel =>
          refine ⟨k + 1, by omega, by go_num, fun j hj => ?_⟩
          by_cases e : j = k
          · subst e; rw [← Hd.out]; exact H0.out
          · exact Hz.out j (by omega)
        case measure => simp [intOf]; omega
    · obtain rfl : k = 16 := by omega
      go_wp2
      go_ret2
      refine ⟨?_, rfl⟩
      rw [num_bad (fun h => Hz.out _ h (Hx.dg_nm h))]
      rfl
set_option maxHeartbeats 1000000 in
theorem digit_any (n : Nat) (w : World) (hn : n < 16) : Calls Tryd.prog 11 #[.int .i64 (n : Int)] w (Same (.int .u8 (Hx.dg n : Int)) w) := by
  by_cases h : n < 10
  · go_enter Tryd.func11, Tryd.ntmps11
    go_wp2
    go_ret
    refine ⟨?_, rfl⟩
    unfold Hx.dg
    rw [if_pos h]
    simp
  · go_enter Tryd.func11, Tryd.ntmps11
    go_wp2
    go_ret
    refine ⟨?_, rfl⟩
    unfold Hx.dg
    rw [if_neg h]
    simp
end Go.Proofs.YtombholjbcnncaaDoor
