/-
  Several texts in one: The walks of Groups, Size, Limit and Stripe, the program's and the document's, and of the program's Where (jumps from part to part), GroupCell and SlotCell; The walks of the program's GroupCell and SlotCell, and of Size, Limit, Stripe and Right, the program's and the document's; The walks of Right, the program's and the document's (out of wip/Table). By an AI agent.
-/
import Derived.Test.YtknefjigdlbacaaGreatDoorSkGAH
import Derived.Test.YtknefjigdlbacaaGreatDoorSkGAD
import Derived.WalkKit
import Derived.WalkSpells
import Derived.WalkLawsBesides
import Derived.WalkMore
import Derived.WalkSmall
import Derived.ScopeJumps
import Derived.Below
import Derived.BigQuiet
import Derived.Lib.Hide
import Derived.IntWalk
import Derived.Laws.StructEq
import Derived.Deep.RegionHeld3
set_option linter.unusedSimpArgs false
set_option linter.unusedVariables false
namespace Go.Proofs.YtknefjigdlbacaaGreatDoor
open Go.RowKit
theorem u64_wrap (x : Int) : IntKind.u64.wrap x = x % 18446744073709551616 := by
  simp [IntKind.wrap, IntKind.bits, IntKind.signed]
set_option maxHeartbeats 2000000 in
/-- route.Groups. -/
theorem groups_any (log : Int) (w : World) : Calls Tryz.prog 70 #[.int .i64 log] w (Same (.int .i64 (Tb.grp log : Nat)) w) := by
  by_cases h : 0 ≤ log
  · have h' : ¬ log < 0 := by omega
    by_cases h2 : 9 < log
    · rw [Tb.grp_out (.inr h2)]
      go_enter Tryz.func70, Tryz.ntmps70
      go_wp2
      go_ret
      exact ⟨rfl, rfl⟩
    · rcases Tb.ten h (by omega) with rfl | rfl | rfl | rfl | rfl | rfl | rfl | rfl | rfl | rfl
      all_goals
        go_enter Tryz.func70, Tryz.ntmps70
        go_wp2
        go_ret
        exact ⟨rfl, rfl⟩
  · have h' : log < 0 := by omega
    rw [Tb.grp_out (.inl h')]
    go_enter Tryz.func70, Tryz.ntmps70
    go_wp2
    go_ret
    exact ⟨rfl, rfl⟩
set_option maxRecDepth 100000 in
set_option maxHeartbeats 2000000 in
/-- The document's Groups: doublings. -/
theorem rgroups_any (log : Int) (w : World) : Calls Tryz.prog 75 #[.int .i64 log] w (Same (.int .i64 (Tb.grp log : Nat)) w) := by
  by_cases h : 0 ≤ log
  · have h' : ¬ log < 0 := by omega
    by_cases h2 : 9 < log
    · rw [Tb.grp_out (.inr h2)]
      go_enter Tryz.func75, Tryz.ntmps75
      go_wp2
      go_ret
      exact ⟨rfl, rfl⟩
    · rw [Tb.grp_in h (by omega)]
      go_enter Tryz.func75, Tryz.ntmps75
      go_wp2
      go_loop [3, 4] (fun u c => ∃ k : Nat, (k : Int) ≤ log ∧ c = .int .i64 k ∧ u = .int .i64 ((2 ^ k : Nat) : Int)) (fun _ c => (log - intOf c).toNat)
      case atStart => exact ⟨0, by omega, rfl, rfl⟩
      case round =>
        obtain ⟨k, hk, rfl, rfl⟩ := hrel
        have hp : 2 ^ k ≤ 2 ^ 9 := Nat.pow_le_pow_right (by omega) (by omega)
        have hp1 : (2 ^ k : Nat) ≤ 512 := hp
        clear hp
        by_cases hlt : (k : Int) < log
        · have hpw : ((2 ^ (k + 1) : Nat) : Int) = 2 * ((2 ^ k : Nat) : Int) := by rw [Nat.pow_succ]; omega
          have Hpw := Lib.hid hpw; clear hpw
          generalize hq : (2 ^ k : Nat) = q at hp1 Hpw ⊢
          go_wp2
          go_round
          case rel => exact ⟨k + 1, by omega, by go_num, by rw [Hpw.out]⟩
          case measure => simp [intOf]; omega
        · obtain rfl : log = k := by omega
          go_wp2
          go_ret
          exact ⟨rfl, rfl⟩
  · have h' : log < 0 := by omega
    rw [Tb.grp_out (.inl h')]
    go_enter Tryz.func75, Tryz.ntmps75
    go_wp2
    go_ret
    exact ⟨rfl, rfl⟩
/-- A place, as a value. -/
def pv (p : Int × Int × Int) : Value := .agg #[.int .i64 p.1, .int .i64 p.2.1, .int .i64 p.2.2]
set_option maxRecDepth 100000 in
set_option maxHeartbeats 2000000 in
/-- table.Where. -/
theorem where_any (log c : Int) (w : World) (h0 : -9223372036854775808 ≤ c) (h1 : c ≤ 9223372036854775807) : Calls Tryz.prog 151 #[.int .i64 log, .int .i64 c] w (Gives (pv (Tb.plc (Tb.grp log) c)) w) := by
  have G := Lib.hid (fun w => groups_any log w)
  have hn := Tb.grp_le log
  generalize Tb.grp log = n at *
  rcases Tb.plc_ways n c with ⟨a, e⟩ | ⟨a, k0, e⟩ | ⟨a, k0, k1, e⟩ | ⟨a, k0, k1, e⟩ | ⟨a, k0, k1, k2, e⟩ | ⟨a, k0, k1, k2, e⟩
  · rw [e]; clear e
    subst a
    go_enter Tryz.func151, Tryz.ntmps151
    go_wp2_with fail
    refine scope_hops 3 ?_
    go_wp2_with fail
    with_reducible refine (G.out _).mono ?_
    rintro e w1 ⟨rfl, rfl⟩
    go_wp2
    go_step3
    refine Hop.go rfl ?_
    go_wp2
    rw [Hop.ret]
    exact bodyPost_ret (v := pv (0, 0, 0)) (by simp [results, Tryz.results151, go_sem, pv]) rfl ⟨rfl, (Below.refl _ _).alloc (Nat.le_refl _) _⟩
  · rw [e]; clear e
    have a' : ((n : Int) == 0) = false := by simpa using a
    go_enter Tryz.func151, Tryz.ntmps151
    go_wp2_with fail
    refine scope_hops 3 ?_
    go_wp2_with fail
    with_reducible refine (G.out _).mono ?_
    rintro e w1 ⟨rfl, rfl⟩
    go_wp2
    go_step3
    refine Hop.go rfl ?_
    go_wp2
    rw [Hop.ret]
    exact bodyPost_ret (v := pv (0, 0, 0)) (by simp [results, Tryz.results151, go_sem, pv]) rfl ⟨rfl, (Below.refl _ _).alloc (Nat.le_refl _) _⟩
  · rw [e]; clear e
    have a' : ((n : Int) == 0) = false := by simpa using a
    have a0 : (c < 0) = False := by simp; omega
    go_enter Tryz.func151, Tryz.ntmps151
    go_wp2_with fail
    refine scope_hops 3 ?_
    go_wp2_with fail
    with_reducible refine (G.out _).mono ?_
    rintro e w1 ⟨rfl, rfl⟩
    go_wp2
    rw [Hop.ret]
    exact bodyPost_ret (v := pv (1, 0, 0)) (by simp [results, Tryz.results151, go_sem, pv]) rfl ⟨rfl, (Below.refl _ _).alloc (Nat.le_refl _) _⟩
  · rw [e]; clear e
    have a' : ((n : Int) == 0) = false := by simpa using a
    have a0 : (c < 0) = False := by simp; omega
    go_enter Tryz.func151, Tryz.ntmps151
    go_wp2_with fail
    refine scope_hops 3 ?_
    go_wp2_with fail
    with_reducible refine (G.out _).mono ?_
    rintro e w1 ⟨rfl, rfl⟩
    go_wp2
    go_step3
    refine Hop.go rfl ?_
    go_wp2
    rw [Hop.ret]
    exact bodyPost_ret (v := pv (2, c - 7, 0)) (by simp [results, Tryz.results151, go_sem, pv]) rfl ⟨rfl, (Below.refl _ _).alloc (Nat.le_refl _) _⟩
  · rw [e]; clear e
    have a' : ((n : Int) == 0) = false := by simpa using a
    have a0 : (c < 0) = False := by simp; omega
    go_enter Tryz.func151, Tryz.ntmps151
    go_wp2_with fail
    refine scope_hops 3 ?_
    go_wp2_with fail
    with_reducible refine (G.out _).mono ?_
    rintro e w1 ⟨rfl, rfl⟩
    go_wp2
    go_step3
    refine Hop.go rfl ?_
    go_wp2
    go_step3
    refine Hop.go rfl ?_
    go_wp2
    rw [Hop.ret]
    exact bodyPost_ret (v := pv (3, (c - 7 - (n : Int)) / 8, (c - 7 - (n : Int)) % 8)) (by simp [results, Tryz.results151, go_sem, pv]) rfl ⟨rfl, (Below.refl _ _).alloc (Nat.le_refl _) _⟩
  · rw [e]; clear e
    have a' : ((n : Int) == 0) = false := by simpa using a
    have a0 : (c < 0) = False := by simp; omega
    go_enter Tryz.func151, Tryz.ntmps151
    go_wp2_with fail
    refine scope_hops 3 ?_
    go_wp2_with fail
    with_reducible refine (G.out _).mono ?_
    rintro e w1 ⟨rfl, rfl⟩
    go_wp2
    go_step3
    refine Hop.go rfl ?_
    go_wp2
    go_step3
    refine Hop.go rfl ?_
    go_wp2
    go_step3
    refine Hop.go rfl ?_
    go_wp2
    rw [Hop.ret]
    exact bodyPost_ret (v := pv (0, 0, 0)) (by simp [results, Tryz.results151, go_sem, pv]) rfl ⟨rfl, (Below.refl _ _).alloc (Nat.le_refl _) _⟩
end Go.Proofs.YtknefjigdlbacaaGreatDoor
set_option linter.unusedSimpArgs false
set_option linter.unusedVariables false
namespace Go.Proofs.YtknefjigdlbacaaGreatDoor
open Go.RowKit
set_option maxRecDepth 100000 in
theorem tflds : (Tryz.prog.fieldsOf 165).toList.map (fun f => (f.name, f.type, f.offset)) = [("Part", 3, 0), ("Group", 3, 1), ("Slot", 3, 2)] := by kernel_rfl
set_option maxRecDepth 100000 in
set_option maxHeartbeats 1000000 in
/-- Are two places one? -/
theorem eq_place (a0 a1 a2 b0 b1 b2 : Int) : ∀ w : World, (binOp .eql 165 (.agg #[.int .i64 a0, .int .i64 a1, .int .i64 a2]) (.agg #[.int .i64 b0, .int .i64 b1, .int .i64 b2])).run Tryz.prog w = .ok (.bool (decide ((a0, a1, a2) = (b0, b1, b2)))) w := fun w => by
  rw [run_eql_struct, run_equalIn_agg _ _ _ _ _ (by kernel_rfl) (by kernel_rfl)]
  rcases hf : (Tryz.prog.fieldsOf 165).toList with _ | ⟨f0, _ | ⟨f1, _ | ⟨f2, _ | ⟨f3, r⟩⟩⟩⟩
  all_goals (have hfl := tflds; rw [hf] at hfl; simp at hfl)
  obtain ⟨⟨n0, t0, o0⟩, ⟨n1, t1, o1⟩, n2, t2, o2⟩ := hfl
  simp only [Op.eqFields, n0, t0, o0, n1, t1, o1, n2, t2, o2]
  by_cases h0 : a0 = b0 <;> by_cases h1 : a1 = b1 <;> by_cases h2 : a2 = b2 <;>
    simp [go_sem, Tryz.underlying3, Tryz.isAgg3, h0, h1, h2]
set_option maxRecDepth 100000 in
set_option maxHeartbeats 1000000 in
theorem ne_place (a0 a1 a2 b0 b1 b2 : Int) : ∀ w : World, (binOp .neq 165 (.agg #[.int .i64 a0, .int .i64 a1, .int .i64 a2]) (.agg #[.int .i64 b0, .int .i64 b1, .int .i64 b2])).run Tryz.prog w = .ok (.bool (!decide ((a0, a1, a2) = (b0, b1, b2)))) w := fun w => by
  rw [run_neq_struct, run_equalIn_agg _ _ _ _ _ (by kernel_rfl) (by kernel_rfl)]
  rcases hf : (Tryz.prog.fieldsOf 165).toList with _ | ⟨f0, _ | ⟨f1, _ | ⟨f2, _ | ⟨f3, r⟩⟩⟩⟩
  all_goals (have hfl := tflds; rw [hf] at hfl; simp at hfl)
  obtain ⟨⟨n0, t0, o0⟩, ⟨n1, t1, o1⟩, n2, t2, o2⟩ := hfl
  simp only [Op.eqFields, n0, t0, o0, n1, t1, o1, n2, t2, o2]
  by_cases h0 : a0 = b0 <;> by_cases h1 : a1 = b1 <;> by_cases h2 : a2 = b2 <;>
    simp [go_sem, Tryz.underlying3, Tryz.isAgg3, h0, h1, h2]
/-- A place's box. -/
abbrev pbox (w : World) (p : Int × Int × Int) : World := w.alloc (.cells #[.int .i64 p.1, .int .i64 p.2.1, .int .i64 p.2.2] 165)
theorem pbox_below (w : World) (p : Int × Int × Int) : Below w.heap.size w (pbox w p) := (Below.refl _ _).alloc (Nat.le_refl _) _
theorem pbox_cells {w w' : World} {p : Int × Int × Int} (h : Below (pbox w p).heap.size (pbox w p) w') : w'.cell? ⟨w.heap.size, 0, none⟩ = some (.int .i64 p.1) ∧ w'.cell? ⟨w.heap.size, 1, none⟩ = some (.int .i64 p.2.1) ∧ w'.cell? ⟨w.heap.size, 2, none⟩ = some (.int .i64 p.2.2) := by
  have hs : w.heap.size < (pbox w p).heap.size := by simp
  refine ⟨?_, ?_, ?_⟩ <;> rw [h.cell hs, World.cell?_alloc_new] <;> rfl
set_option maxRecDepth 100000 in
set_option maxHeartbeats 2000000 in
/-- table.ifThere. -/
theorem there_any (log at_ c p0 p1 p2 : Int) (w : World) (hc : wrap64 at_ = c) (h0 : 0 ≤ at_) (h1 : at_ ≤ 18446744073709551615) : Calls Tryz.prog 123 #[.int .i64 log, .int .u64 at_, .agg #[.int .i64 p0, .int .i64 p1, .int .i64 p2]] w (Gives (.int .i64 (Tb.thr (Tb.grp log) c (p0, p1, p2))) w) := by
  subst hc
  have K := Lib.hid (fun w => where_any log (wrap64 at_) w (by unfold wrap64; omega) (by unfold wrap64; omega))
  unfold Tb.thr
  generalize Tb.plc (Tb.grp log) (wrap64 at_) = q at K ⊢
  obtain ⟨q0, q1, q2⟩ := q
  have NE := ne_place q0 q1 q2 p0 p1 p2
  have HB := Lib.hid (pbox_below w (p0, p1, p2))
  have HK : Hid (∀ w' : World, Below (pbox w (p0, p1, p2)).heap.size (pbox w (p0, p1, p2)) w' → w'.cell? ⟨w.heap.size, 0, none⟩ = some (.int .i64 p0) ∧ w'.cell? ⟨w.heap.size, 1, none⟩ = some (.int .i64 p1) ∧ w'.cell? ⟨w.heap.size, 2, none⟩ = some (.int .i64 p2)) := Lib.hid (fun w' hb' => pbox_cells hb')
  clear h0 h1
  unfold pv at *
  dsimp only at *
  have tail : ∀ b : Bool, decide ((q0, q1, q2) = (p0, p1, p2)) = b → Calls Tryz.prog 123 #[.int .i64 log, .int .u64 at_, .agg #[.int .i64 p0, .int .i64 p1, .int .i64 p2]] w (Gives (.int .i64 (if b = true then wrap64 at_ else -1)) w) := by
    intro b hb
    rw [hb] at NE
    clear hb
    generalize hc : wrap64 at_ = c at K ⊢
    cases b
    all_goals
      go_enter Tryz.func123, Tryz.ntmps123
      go_wp2_with fail
      obtain ⟨W, hW⟩ : ∃ W, W = pbox w (p0, p1, p2) := ⟨_, rfl⟩
      dsimp only [pbox] at hW HB HK
      rw [← hW] at HB HK ⊢
      clear hW hc
      obtain ⟨g0, g1, g2⟩ := HK.out W (Below.refl _ _)
      have B : Hid (Below W.heap.size W W.drew) := Lib.hid (Below.refl _ _).drew
      generalize w.heap.size = b0 at g0 g1 g2 HK ⊢
      go_region_held3 (fun w' => w'.cell? ⟨b0, 0, none⟩ = some (.int .i64 p0) ∧ w'.cell? ⟨b0, 1, none⟩ = some (.int .i64 p1) ∧ w'.cell? ⟨b0, 2, none⟩ = some (.int .i64 p2))
        (with_reducible exact HK.out _ B.out)
        (first
          | (go_at_call 151; (with_reducible refine (K.out _).mono ?_); rintro e w3 ⟨rfl, b3⟩; have B := Lib.hid (B.out.trans (b3.mono B.out.size)); clear b3)
          | fail)
      go_wp2
      go_ret
      exact ⟨rfl, below_then HB.out B.out⟩
  have := tail _ rfl
  simpa using this
set_option maxRecDepth 100000 in
set_option maxHeartbeats 2000000 in
/-- table.GroupCell. -/
theorem tgroup_any (log g : Int) (w : World) (g0 : -9223372036854775808 ≤ g) (g1 : g ≤ 9223372036854775807) : Calls Tryz.prog 76 #[.int .i64 log, .int .i64 g] w (Gives (.int .i64 (Tb.gc (Tb.grp log) g)) w) := by
  have e : wrap64 (IntKind.u64.wrap (7 + IntKind.u64.wrap g)) = (7 + g + 9223372036854775808) % 18446744073709551616 - 9223372036854775808 := by rw [u64_wrap, u64_wrap]; unfold wrap64; omega
  have K := there_any log (IntKind.u64.wrap (7 + IntKind.u64.wrap g)) _ 2 g 0 w e (by rw [u64_wrap]; omega) (by rw [u64_wrap]; omega)
  rw [Tb.thr_group rfl (Tb.grp_le log) g0 g1] at K
  have K' := Lib.hid K
  clear K e
  go_enter Tryz.func76, Tryz.ntmps76
  go_wp2_with fail
  with_reducible refine K'.out.mono ?_
  rintro e w1 ⟨rfl, hb⟩
  go_wp2
  go_ret
  exact ⟨rfl, hb⟩
set_option maxRecDepth 100000 in
set_option maxHeartbeats 2000000 in
/-- table.SlotCell. -/
theorem tslot_any (log g s : Int) (w : World) (g0 : -9223372036854775808 ≤ g) (g1 : g ≤ 9223372036854775807) (s0 : -9223372036854775808 ≤ s) (s1 : s ≤ 9223372036854775807) : Calls Tryz.prog 82 #[.int .i64 log, .int .i64 g, .int .i64 s] w (Gives (.int .i64 (Tb.sc (Tb.grp log) g s)) w) := by
  have hn := Tb.grp_le log
  have e : wrap64 (IntKind.u64.wrap (IntKind.u64.wrap (7 + (Tb.grp log : Int) + IntKind.u64.wrap (8 * IntKind.u64.wrap g)) + IntKind.u64.wrap s)) = (7 + (Tb.grp log : Int) + 8 * g + s + 9223372036854775808) % 18446744073709551616 - 9223372036854775808 := by
    rw [u64_wrap, u64_wrap, u64_wrap, u64_wrap, u64_wrap]; unfold wrap64; omega
  have K := there_any log (IntKind.u64.wrap (IntKind.u64.wrap (7 + (Tb.grp log : Int) + IntKind.u64.wrap (8 * IntKind.u64.wrap g)) + IntKind.u64.wrap s)) _ 3 g s w e (by rw [u64_wrap]; omega) (by rw [u64_wrap]; omega)
  rw [Tb.thr_slot rfl hn] at K
  have K' := Lib.hid K
  clear K e
  have G := Lib.hid (fun w => groups_any log w)
  generalize Tb.grp log = n at *
  go_enter Tryz.func82, Tryz.ntmps82
  go_wp2_with fail
  with_reducible refine (G.out _).mono ?_
  rintro e w1 ⟨rfl, rfl⟩
  go_wp2_with fail
  with_reducible refine K'.out.mono ?_
  rintro e w1 ⟨rfl, hb⟩
  go_wp2
  go_ret
  exact ⟨rfl, hb⟩
set_option maxHeartbeats 1000000 in
theorem tsize_any (log : Int) (w : World) : Calls Tryz.prog 60 #[.int .i64 log] w (Same (.int .i64 (Tb.size (Tb.grp log))) w) := by
  have G := Lib.hid (fun w => groups_any log w)
  have hn := Tb.grp_le log
  generalize Tb.grp log = n at *
  rcases Nat.eq_zero_or_pos n with a | a
  · subst a
    go_enter Tryz.func60, Tryz.ntmps60
    go_wp2_with fail
    with_reducible refine (G.out _).mono ?_
    rintro e w1 ⟨rfl, rfl⟩
    go_wp2
    go_ret
    exact ⟨rfl, rfl⟩
  · rw [Tb.size_pos a]
    have a' : ((n : Int) == 0) = false := by simp; omega
    go_enter Tryz.func60, Tryz.ntmps60
    go_wp2_with fail
    with_reducible refine (G.out _).mono ?_
    rintro e w1 ⟨rfl, rfl⟩
    go_wp2
    go_ret
    exact ⟨ret_int (by omega), rfl⟩
set_option maxHeartbeats 1000000 in
theorem limit_any (log : Int) (w : World) : Calls Tryz.prog 129 #[.int .i64 log] w (Same (.int .i64 (7 * (Tb.grp log : Int))) w) := by
  have G := Lib.hid (fun w => groups_any log w)
  have hn := Tb.grp_le log
  generalize Tb.grp log = n at *
  go_enter Tryz.func129, Tryz.ntmps129
  go_wp2_with fail
  with_reducible refine (G.out _).mono ?_
  rintro e w1 ⟨rfl, rfl⟩
  go_wp2
  go_ret
  exact ⟨rfl, rfl⟩
set_option maxHeartbeats 1000000 in
theorem rlimit_any (log : Int) (w : World) : Calls Tryz.prog 103 #[.int .i64 log] w (Same (.int .i64 (7 * (Tb.grp log : Int))) w) := by
  have G := Lib.hid (fun w => rgroups_any log w)
  have hn := Tb.grp_le log
  generalize Tb.grp log = n at *
  go_enter Tryz.func103, Tryz.ntmps103
  go_wp2_with fail
  with_reducible refine (G.out _).mono ?_
  rintro e w1 ⟨rfl, rfl⟩
  go_wp2
  go_ret
  exact ⟨rfl, rfl⟩
theorem tmod4_pos {m : Int} (h : ¬ m.tmod 4 < 0) : m.tmod 4 = m % 4 := by
  rw [Int.tmod_eq_emod] at h ⊢
  split at h <;> rename_i c
  · rw [if_pos c]; omega
  · simp at h; omega
theorem tmod4_neg {m : Int} (h : m.tmod 4 < 0) : m.tmod 4 + 4 = m % 4 := by
  rw [Int.tmod_eq_emod] at h ⊢
  split at h <;> rename_i c
  · omega
  · rw [if_neg c]; simp
set_option maxHeartbeats 1000000 in
theorem stripe_any (t : Int) (w : World) : Calls Tryz.prog 79 #[.int .i64 t] w (Same (.int .i64 (Tb.strp t)) w) := by
  go_enter Tryz.func79, Tryz.ntmps79
  go_wp2
  go_ret
  refine ⟨ret_int ?_, rfl⟩
  have e := u64_wrap t
  have e2 : (IntKind.u64.wrap t).tmod 4 = t % 4 := by rw [e, Int.tmod_eq_emod_of_nonneg (by omega)]; omega
  rw [e2, wrap64_small (x := t % 4) (by omega) (by omega), wrap64_small (x := 3 + t % 4) (by omega) (by omega)]
  rfl
set_option maxHeartbeats 1000000 in
theorem rstripe_any (t : Int) (w : World) : Calls Tryz.prog 106 #[.int .i64 t] w (Same (.int .i64 (Tb.strp t)) w) := by
  by_cases k : t.tmod 4 < 0
  · have e := tmod4_neg k
    have E := Lib.hid e; clear e
    go_enter Tryz.func106, Tryz.ntmps106
    go_wp2
    go_ret
    refine ⟨ret_int ?_, rfl⟩
    unfold Tb.strp
    have := E.out
    rw [this, wrap64_small (x := t % 4) (by omega) (by omega), wrap64_small (x := 3 + t % 4) (by omega) (by omega)]
  · have e := tmod4_pos k
    have E := Lib.hid e; clear e
    go_enter Tryz.func106, Tryz.ntmps106
    go_wp2
    go_ret
    refine ⟨ret_int ?_, rfl⟩
    unfold Tb.strp
    have := E.out
    rw [this, wrap64_small (x := 3 + t % 4) (by omega) (by omega)]
end Go.Proofs.YtknefjigdlbacaaGreatDoor
set_option linter.unusedSimpArgs false
set_option linter.unusedVariables false
namespace Go.Proofs.YtknefjigdlbacaaGreatDoor
open Go.RowKit
/-- May a table be. -/
def Tb.right (d : Int) (n : Nat) : Bool := (d != 0) && decide (0 < n)
/-- A table's box. -/
abbrev tboxed (w : World) (d l : Int) : World := w.alloc (.cells #[.int .u64 d, .int .i64 l] 24)
theorem tboxed_below (w : World) (d l : Int) : Below w.heap.size w (tboxed w d l) := (Below.refl _ _).alloc (Nat.le_refl _) _
theorem tboxed_cells {w w' : World} {d l : Int} (h : Below (tboxed w d l).heap.size (tboxed w d l) w') : w'.cell? ⟨w.heap.size, 0, none⟩ = some (.int .u64 d) ∧ w'.cell? ⟨w.heap.size, 1, none⟩ = some (.int .i64 l) := by
  have hs : w.heap.size < (tboxed w d l).heap.size := by simp
  refine ⟨?_, ?_⟩ <;> rw [h.cell hs, World.cell?_alloc_new] <;> rfl
set_option maxRecDepth 100000 in
set_option maxHeartbeats 2000000 in
/-- table.Right. -/
theorem tright_any (d l : Int) (w : World) : Calls Tryz.prog 20 #[.agg #[.int .u64 d, .int .i64 l]] w (Gives (.bool (Tb.right d (Tb.grp l))) w) := by
  have HB := Lib.hid (tboxed_below w d l)
  have G := Lib.hid (fun w => groups_any l w)
  unfold Tb.right
  generalize Tb.grp l = n at *
  cases hd : (d != 0) with
  | false =>
    go_enter Tryz.func20, Tryz.ntmps20
    go_wp2
    go_ret
    exact ⟨rfl, HB.out⟩
  | true =>
    go_enter Tryz.func20, Tryz.ntmps20
    go_wp2_with fail
    with_reducible refine (G.out _).mono ?_
    rintro e w1 ⟨rfl, rfl⟩
    go_wp2
    go_ret
    exact ⟨by simp, HB.out⟩
set_option maxRecDepth 100000 in
set_option maxHeartbeats 2000000 in
/-- The document's Right. -/
theorem trright_any (d l : Int) (w : World) (h0 : 0 ≤ d) : Calls Tryz.prog 24 #[.agg #[.int .u64 d, .int .i64 l]] w (Gives (.bool (Tb.right d (Tb.grp l))) w) := by
  have HB := Lib.hid (tboxed_below w d l)
  have G := Lib.hid (fun w => rgroups_any l w)
  unfold Tb.right
  generalize Tb.grp l = n at *
  have e : (d != 0) = decide (0 < d) := by
    rw [Bool.eq_iff_iff]; simp; omega
  rw [e]
  clear e
  by_cases a : 0 < d
  · go_enter Tryz.func24, Tryz.ntmps24
    go_wp2_with fail
    with_reducible refine (G.out _).mono ?_
    rintro e w1 ⟨rfl, rfl⟩
    go_wp2
    go_ret
    exact ⟨by simp [a], HB.out⟩
  · go_enter Tryz.func24, Tryz.ntmps24
    go_wp2
    go_ret
    exact ⟨by simp; intro h; omega, HB.out⟩
end Go.Proofs.YtknefjigdlbacaaGreatDoor
