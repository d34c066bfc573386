/-
  The walk of MixBytes: it returns true. By an AI agent.
-/
import Derived.Test.YtcbiciofdkajnaaMixText
import Derived.Deep.RegionWith
import Derived.Deep.RegionHeld3
import Derived.StillTailTactics
import Derived.BigQuiet
import Derived.Deep.QuietTactic
namespace Go.Proofs.Ytcbiciofdkajnaa
open Go.RowKit
theorem draws {B : Nat} {a w : World} (h : Below B a w) (n : Nat) : Below B a (w.drewN n) := h.trans ⟨rfl, rfl, rfl, Nat.le_refl _, fun _ _ => rfl⟩
theorem quiet_of {f : FuncId} {args : Array Value} {w : World} {n : Nat} {v : Value} (h : Calls Try.prog f args (w.drewN n) (Same v (w.drewN n))) : Calls Try.prog f args (w.drewN n) fun e w'' => e = .returned v ∧ ∃ m, w'' = w.drewN m :=
  h.mono fun _ _ ⟨he, hm⟩ => ⟨he, n, hm.symm⟩
set_option maxRecDepth 100000 in
set_option maxHeartbeats 1000000 in
theorem bytes_long (a u v : Int) (s : ByteArray) (w : World) (h : 2000 < s.size) (hs : s.size ≤ maxLen) : Calls Try.prog 5 #[.int .u64 a, .string s, .agg #[.int .u8 u, .int .u8 v]] w (Says true w) := by
  unfold maxLen at hs
  go_enter Try.func5, Try.ntmps5
  go_wp2_with (go_at_call 6; refine (awake_any _).mono ?_; rintro e w' ⟨rfl, rfl⟩)
  go_ret
  exact ⟨rfl, (Below.refl _ _).alloc (Nat.le_refl _) _⟩
set_option maxRecDepth 100000 in
set_option maxHeartbeats 1000000 in
theorem bytes_short (a : Nat) (u v : Int) (s : ByteArray) (w : World) (ha : a < 18446744073709551616) (u0 : 0 ≤ u) (u1 : u ≤ 255) (v0 : 0 ≤ v) (v1 : v ≤ 255) (h : s.size ≤ 2000) : Calls Try.prog 5 #[.int .u64 (a : Int), .string s, .agg #[.int .u8 u, .int .u8 v]] w (Says true w) := by
  have CU := fun (W : World) (b o : Nat) => conv1 u u0 u1 W b o
  have CV := fun (W : World) (b o : Nat) => conv1 v v0 v1 W b o
  go_enter Try.func5, Try.ntmps5
  go_wp2
  go_loopw [7] (fun i wr => ∃ k : Nat, k ≤ s.size + 1 ∧ i = .int .i64 k ∧ Below (w.heap.size + 1) (w.alloc (.cells #[.int .u8 u, .int .u8 v] 30)) wr) (fun i _ => s.size + 1 - (intOf i).toNat)
  case atStart => exact ⟨0, by omega, rfl, Below.refl _ _⟩
  case round =>
    obtain ⟨k, hk, rfl, hb⟩ := hrel
    have hc0 : wr.cell? ⟨w.heap.size, 0, none⟩ = some (.int .u8 u) := by
      rw [hb.cell (p := ⟨w.heap.size, 0, none⟩) (by show w.heap.size < w.heap.size + 1; omega), World.cell?_alloc_at _ _ _ _ rfl]; rfl
    have hc1 : wr.cell? ⟨w.heap.size, 1, none⟩ = some (.int .u8 v) := by
      rw [hb.cell (p := ⟨w.heap.size, 1, none⟩) (by show w.heap.size < w.heap.size + 1; omega), World.cell?_alloc_at _ _ _ _ rfl]; rfl
    have hsz : w.heap.size + 1 ≤ wr.heap.size := by have := hb.size; simpa using this
    have Hb := Lib.hid hb; clear hb
    by_cases hlt : k ≤ s.size
    · by_cases hg : 40 < k ∧ (k : Int) < (s.size : Int) - 40
      · obtain ⟨g1, g2⟩ := hg
        go_wp2
        go_roundw
        case rel => exact ⟨k + 1, by omega, by go_num, Hb.out⟩
        case measure => simp [intOf]; omega
      · have P1 := fun W => add1 (v := u) hlt h W
        have P2 := fun W => add2 (v := u) hlt h W
        have Q1 := fun W => add1 (v := v) hlt h W
        have Q2 := fun W => add2 (v := v) hlt h W
        generalize pre s k u = pu at P1 P2
        generalize pre s k v = pv at Q1 Q2
        have HA := Lib.hid fun w => hash_any a (txt s k u) w ha (by rw [txt_size hlt]; unfold maxLen; omega)
        have HB := Lib.hid fun w => hash_any a (txt s k v) w ha (by rw [txt_size hlt]; unfold maxLen; omega)
        have hne : (((Mx.hsh a (txt s k u).data.toList : Nat) : Int) == ((Mx.hsh a (txt s k v).data.toList : Nat) : Int)) = (u == v) := by
          have e := txt_apart (s := s) (k := k) ha u0 u1 v0 v1
          by_cases c : u = v
          · rw [c]; simp
          · have c1 : ¬ Mx.hsh a (txt s k u).data.toList = Mx.hsh a (txt s k v).data.toList := fun h => c (e.1 h)
            rw [show (u == v) = false by simp [c], beq_eq_false_iff_ne]
            omega
        generalize Mx.hsh a (txt s k u).data.toList = x at HA hne
        generalize Mx.hsh a (txt s k v).data.toList = y at HB hne
        generalize txt s k u = tu at HA P2
        generalize txt s k v = tv at HB Q2
        have DA := Lib.hid fun (w : World) (n : Nat) => quiet_of (HA.out (w.drewN n))
        have DB := Lib.hid fun (w : World) (n : Nat) => quiet_of (HB.out (w.drewN n))
        clear HA HB
        have hg' : (40 < k ∧ ¬ (k : Int) < (s.size : Int) - 40) ∨ ¬ 40 < k := by omega
        clear hg
        rcases hg' with ⟨g1, g2⟩ | g1
        all_goals
          go_wp2
          go_region
          go_wp2
          obtain ⟨w1, hw1⟩ : ∃ w1 : World, w1 = (wr.alloc (.cells #[.int .u8 u] 5)).drew := ⟨_, rfl⟩
          have hb1 : Below wr.heap.size wr w1 := hw1 ▸ ((Below.refl _ _).alloc (Nat.le_refl _) _).drew
          rw [← hw1]
          have hd0 : w1.cell? ⟨w.heap.size, 0, none⟩ = some (.int .u8 u) := by rw [hb1.cell (p := ⟨w.heap.size, 0, none⟩) (by show w.heap.size < wr.heap.size; omega)]; exact hc0
          have hd1 : w1.cell? ⟨w.heap.size, 1, none⟩ = some (.int .u8 v) := by rw [hb1.cell (p := ⟨w.heap.size, 1, none⟩) (by show w.heap.size < wr.heap.size; omega)]; exact hc1
          have hz1 : wr.heap.size ≤ w1.heap.size := hb1.size
          have Hb1 := Lib.hid hb1; clear hb1 hc0 hc1 hw1
          go_region
          go_wp2
          obtain ⟨w2, hw2⟩ : ∃ w2 : World, w2 = (w1.alloc (.cells #[.int .u8 v] 5)).drew := ⟨_, rfl⟩
          have hb2 : Below w1.heap.size w1 w2 := hw2 ▸ ((Below.refl _ _).alloc (Nat.le_refl _) _).drew
          rw [← hw2]
          have he0 : w2.cell? ⟨w.heap.size, 0, none⟩ = some (.int .u8 u) := by rw [hb2.cell (p := ⟨w.heap.size, 0, none⟩) (by show w.heap.size < w1.heap.size; omega)]; exact hd0
          have he1 : w2.cell? ⟨w.heap.size, 1, none⟩ = some (.int .u8 v) := by rw [hb2.cell (p := ⟨w.heap.size, 1, none⟩) (by show w.heap.size < w1.heap.size; omega)]; exact hd1
          have Hb2 := Lib.hid hb2; clear hb2 hd0 hd1 hw2
          go_quiet ((go_at_call 7; first | with_reducible exact DA.out _ _ | with_reducible exact DB.out _ _))
          go_wp2
          go_roundw
          case rel => exact ⟨k + 1, by omega, by go_num, draws ((Hb.out.trans (Hb1.out.mono hsz)).trans (Hb2.out.mono (Nat.le_trans hsz hz1))) nq⟩
          case measure => simp [intOf]; omega
    · obtain rfl : k = s.size + 1 := by omega
      go_wp2_with (go_at_call 6; refine (awake_any _).mono ?_; rintro e w' ⟨rfl, rfl⟩)
      go_ret
      exact ⟨rfl, ((Below.refl _ _).alloc (Nat.le_refl _) _).trans (Hb.out.mono (by omega))⟩
end Go.Proofs.Ytcbiciofdkajnaa
