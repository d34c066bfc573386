/-
  The walk of CtrlKeeps. By an AI agent.
-/
import Derived.Test.YtmdaekiogcecmaaCtrlAwake
namespace Go.Proofs.Ytmdaekiogcecmaa
open Go.RowKit
/-- The pairs of numbers that the slice has. -/
def PairsAt (w : World) (B : Nat) (A : Option Addr) (n : Nat) (f g : Nat → Int) : Prop :=
  n = 0 ∨ ∃ b off, A = some ⟨b, off, none⟩ ∧ b < B ∧ ∀ j, j < n → w.cell? ⟨b, off + j * 2, none⟩ = some (.int .i64 (f j)) ∧ w.cell? ⟨b, off + j * 2 + 1, none⟩ = some (.int .i64 (g j))
theorem PairsAt.below {w w' : World} {B : Nat} {A : Option Addr} {n : Nat} {f g : Nat → Int} (h : PairsAt w B A n f g) (hb : Below B w w') : PairsAt w' B A n f g := by
  rcases h with h | ⟨b, off, rfl, hlt, hc⟩
  · exact .inl h
  · exact .inr ⟨b, off, rfl, hlt, fun j hj => ⟨(hb.cell (p := ⟨b, off + j * 2, none⟩) hlt).trans (hc j hj).1, (hb.cell (p := ⟨b, off + j * 2 + 1, none⟩) hlt).trans (hc j hj).2⟩⟩
set_option maxRecDepth 100000 in
set_option maxHeartbeats 1000000 in
theorem keeps_long (x : Int) (A : Option Addr) (n cap : Nat) (w : World) (hl : n ≤ 9223372036854775807) (h40 : 40 < n) : Calls Try.prog 5 #[.int .u64 x, .slice A n cap] w (Says true w) := by
  have h' : (40 : Int) < n := by omega
  go_enter Try.func5, Try.ntmps5
  go_wp2_with fail
  with_reducible refine (awake_any _).mono ?_
  rintro e w2 ⟨rfl, b2⟩
  go_wp2
  go_ret
  exact ⟨rfl, b2⟩
/-- Of a word and of its seal: what CtrlKeeps asks of each place. -/
theorem free_yes {x : Int} {k : Nat} (h : Ln.byt x k = 0) : (Ct.cls x k 0 == 1) = true := by rw [Ct.cls_free 0 h]; rfl
theorem free_no {x : Int} {k : Nat} (h : ¬ Ln.byt x k = 0) : (Ct.cls x k 0 == 1) = false := by
  unfold Ct.cls; rw [if_neg h]; split
  · rfl
  · split <;> rfl
theorem shut_yes {x : Int} {k : Nat} (hk : k < 8) (h : Ln.byt x k = 0) : (Ct.cls (Ct.sea x) k 0 != 2) = false := by
  rw [Ct.cls_shut 0 (by rw [Ct.sea_byte hk, if_pos h])]; rfl
theorem kept_yes {x : Int} {k : Nat} (hk : k < 8) (h : ¬ Ln.byt x k = 0) : (Ln.byt (Ct.sea x) k != Ln.byt x k) = false := by
  rw [Ct.sea_byte hk, if_neg h]; simp
/-- The last two conditions: nothing was free, or a sealed place is found. -/
theorem free_found {x : Int} {m : Nat} {p q : Int} (hm : Ct.emp x 8 = m) (hp : Ct.nxp (Ct.sea x) 0 0 = p) (hq : Ct.nxc (Ct.sea x) 0 0 = q) : ((m : Int) == 0) = true ∨ (((m : Int) == 0) = false ∧ p < 8 ∧ (q == 2) = true) := by
  by_cases h : m = 0
  · exact .inl (by simp [h])
  · have := Ct.sea_next (x := x) (by omega)
    exact .inr ⟨by simp; omega, by omega, by simp; omega⟩
set_option maxRecDepth 100000 in
set_option maxHeartbeats 4000000 in
theorem keeps_any (x0 : Int) (A : Option Addr) (n cap : Nat) (f g : Nat → Int) (w : World) (hx0 : 0 ≤ x0) (hx1 : x0 ≤ 18446744073709551615) (h40 : n ≤ 40) (h : PairsAt w w.heap.size A n f g) :
    Calls Try.prog 5 #[.int .u64 x0, .slice A n cap] w (Says true w) := by
  have h' : ¬ (40 : Int) < n := by omega
  go_enter Try.func5, Try.ntmps5
  go_wp2
  go_loopw [5, 6, 7, 8] (fun u i _ _ wr => ∃ (x : Int) (k : Nat), k ≤ n ∧ i = .int .i64 k ∧ u = .int .u64 x ∧ 0 ≤ x ∧ x ≤ 18446744073709551615 ∧ Below w.heap.size w wr) (fun _ i _ _ _ => n - (intOf i).toNat)
  case atStart => exact ⟨x0, 0, by omega, rfl, rfl, hx0, hx1, Below.refl _ _⟩
  case round =>
    obtain ⟨x, k, hk, rfl, rfl, p0, p1, hB⟩ := hrel
    by_cases hlt : k < n
    · rcases h.below hB with h0 | ⟨b, off, rfl, hb, hc⟩
      · omega
      obtain ⟨g1, g2⟩ := hc k hlt
      clear hc
      obtain ⟨y0, y1⟩ := Ct.clm_bd (x := x) (f k) (g k) p0 p1
      go_wp2
      go_quiet ((go_at_call 11; exact Calls.quiet_of_same ((claim_any _ _ _ _ p0 p1).mono (fun _ _ h => ⟨h.1, h.2.symm⟩))))
      have HK := Lib.hid (fun (j : Nat) (hj : j < 8) (hz : ¬ Ln.byt x j = 0) => Ct.clm_keeps (i := f k) (c := g k) hj hz)
      have hB2 := below_drewN hB nq
      clear g1 g2 hB
      generalize Ct.clm x (f k) (g k) = y at HK y0 y1
      generalize wr.drewN nq = w5 at hB2
      go_wp2
      go_loopw [8] (fun i wr => ∃ j : Nat, j ≤ 8 ∧ i = .int .i64 j ∧ Below w.heap.size w wr) (fun i _ => 8 - (intOf i).toNat)
      case atStart => exact ⟨0, by omega, rfl, hB2⟩
      case round =>
        obtain ⟨j, hj, rfl, hB3⟩ := hrel
        by_cases hj8 : j < 8
        · by_cases hz : Ln.byt x j = 0
          · have e1 : (Ln.byt x j != 0) = false := by simp [hz]
            clear hz
            go_wp2_with fail
            with_reducible refine (rbyte_any _ _ _ p0 p1).mono ?_
            rintro e w1 ⟨rfl, rfl⟩
            go_wp2
            go_roundw
            case rel => exact ⟨j + 1, by omega, by go_num, hB3⟩
            case measure => simp [intOf]; omega
          · have e1 : (Ln.byt x j != 0) = true := by simp [hz]
            have e2 : (Ln.byt y j != Ln.byt x j) = false := by rw [HK.out j hj8 hz]; simp
            clear hz
            go_wp2_with fail
            with_reducible refine (rbyte_any _ _ _ p0 p1).mono ?_
            rintro e w1 ⟨rfl, rfl⟩
            go_wp2_with fail
            with_reducible refine (rbyte_any _ _ _ y0 y1).mono ?_
            rintro e w1 ⟨rfl, rfl⟩
            go_wp2_with fail
            with_reducible refine (rbyte_any _ _ _ p0 p1).mono ?_
            rintro e w1 ⟨rfl, rfl⟩
            go_wp2
            go_roundw
            case rel => exact ⟨j + 1, by omega, by go_num, hB3⟩
            case measure => simp [intOf]; omega
        · obtain rfl : j = 8 := by omega
          go_wp2
          go_roundw
          case rel => exact ⟨y, k + 1, by omega, by go_num, rfl, y0, y1, hB3⟩
          case measure => simp [intOf]; omega
    · obtain rfl : k = n := by omega
      obtain ⟨z0, z1⟩ := Ct.sea_bd p0 p1
      clear hx0 hx1 h
      go_wp2_with fail
      with_reducible refine (seal_any _ _ p0 p1).mono ?_
      rintro e w1 ⟨rfl, b1⟩
      have hB1 := hB.trans (b1.mono hB.size)
      clear b1 hB
      go_wp2
      go_loopw [10, 11] (fun u i wr => ∃ j : Nat, j ≤ 8 ∧ i = .int .i64 j ∧ u = .int .i64 (Ct.emp x j : Nat) ∧ w1 = wr) (fun _ i _ => 8 - (intOf i).toNat)
      case atStart => exact ⟨0, by omega, rfl, rfl, rfl⟩
      case round =>
        obtain ⟨j, hj, rfl, rfl, rfl⟩ := hrel
        have hem := Ct.emp_le x j
        by_cases hj8 : j < 8
        · by_cases hz : Ln.byt x j = 0
          · have e1 := free_yes hz
            have e2 := shut_yes hj8 hz
            have Hz := Lib.hid hz; clear hz
            go_wp2_with fail
            with_reducible refine (class_any _ _ _ _ p0 p1).mono ?_
            rintro e w2 ⟨rfl, rfl⟩
            go_wp2_with fail
            with_reducible refine (class_any _ _ _ _ z0 z1).mono ?_
            rintro e w2 ⟨rfl, rfl⟩
            go_wp2
            go_roundw
            case rel => exact ⟨j + 1, by omega, by go_num, by rw [Ct.emp_hit Hz.out]; go_num, by trivial⟩
            case measure => simp [intOf]; omega
          · have e1 := free_no hz
            have e2 := kept_yes hj8 hz
            have Hz := Lib.hid hz; clear hz
            go_wp2_with fail
            with_reducible refine (class_any _ _ _ _ p0 p1).mono ?_
            rintro e w2 ⟨rfl, rfl⟩
            go_wp2_with fail
            with_reducible refine (rbyte_any _ _ _ z0 z1).mono ?_
            rintro e w2 ⟨rfl, rfl⟩
            go_wp2_with fail
            with_reducible refine (rbyte_any _ _ _ p0 p1).mono ?_
            rintro e w2 ⟨rfl, rfl⟩
            go_wp2
            go_roundw
            case rel => exact ⟨j + 1, by omega, by go_num, by rw [Ct.emp_miss Hz.out], by trivial⟩
            case measure => simp [intOf]; omega
        · obtain rfl : j = 8 := by omega
          have H1 := Lib.hid (fun w => awake_any w)
          obtain ⟨p, hp⟩ : ∃ p, Ct.nxp (Ct.sea x) 0 0 = p := ⟨_, rfl⟩
          obtain ⟨q, hq⟩ : ∃ q, Ct.nxc (Ct.sea x) 0 0 = q := ⟨_, rfl⟩
          obtain ⟨m, hm⟩ : ∃ m, Ct.emp x 8 = m := ⟨_, rfl⟩
          obtain ⟨r, hr⟩ : ∃ r, (Ct.cld x 8).length = r := ⟨_, rfl⟩
          have hff := free_found hm hp hq
          have H2 := Lib.hid (next_two (Ct.sea x) 0 0 p q z0 z1 hp hq)
          have H3 := Lib.hid (fun w => by have := seal_any (Ct.sea x) w z0 z1; rwa [Ct.sea_twice] at this)
          have H4 := Lib.hid (fun w => (claimed_any (Ct.sea x) w z0 z1).mono fun e w' h => lists_of ((congrArg List.length (Ct.cld_sea x)).trans hr) h)
          have H5 := Lib.hid (fun w => (claimed_any x w p0 p1).mono fun e w' h => lists_of hr h)
          clear hp hq hr
          rw [hm]
          clear hm hem
          generalize Ct.sea x = z at H2 H3 H4 z0 z1
          have e1 : (z == z) = true := by simp
          have e2 : ((r : Int) == (r : Int)) = true := by simp
          rcases hff with f1 | ⟨f1, f2, f3⟩
          all_goals
            go_wp2_with fail
            with_reducible refine (H2.out _).mono ?_
            rintro e w2 ⟨rfl, rfl⟩
            go_wp2_with fail
            with_reducible refine (H3.out _).mono ?_
            rintro e w3 ⟨rfl, b3⟩
            go_wp2_with fail
            with_reducible refine (H4.out _).mono ?_
            rintro e w4 ⟨A4, c4, rfl, s4, b4⟩
            go_wp2_with fail
            with_reducible refine (H5.out _).mono ?_
            rintro e w5 ⟨A5, c5, rfl, s5, b5⟩
            go_wp2_with fail
            with_reducible refine (H1.out _).mono ?_
            rintro e w6 ⟨rfl, b6⟩
            go_wp2
            go_ret
            exact ⟨rfl, below_then (below_then (below_then (below_then hB1 b3) b4) b5) b6⟩
end Go.Proofs.Ytmdaekiogcecmaa
