/-
  The walks of Groups, Size, Limit and Stripe, the program's and the document's, and of the program's Where (jumps from part to part), GroupCell and SlotCell. By an AI agent.
-/
import Derived.Test.YthfofninfjcdhaaTableMath
import Derived.WalkKit
import Derived.WalkSpells
import Derived.WalkLawsBesides
import Derived.WalkMore
import Derived.WalkSmall
import Derived.ScopeJumps
import Derived.Below
import Derived.BigQuiet
import Derived.Lib.Hide
import Derived.IntWalk
import Derived.Laws.StructEq
set_option linter.unusedSimpArgs false
set_option linter.unusedVariables false
namespace Go.Proofs.Ythfofninfjcdhaa
open Go.RowKit
theorem ret_int {k : IntKind} {a b : Int} (h : a = b) : Ending.returned (.int k a) = .returned (.int k b) := by rw [h]
theorem below_then {a b c : World} (h : Below a.heap.size a b) (k : Below b.heap.size b c) : Below a.heap.size a c := h.trans (k.mono h.size)
theorem wrap64_small {x : Int} (h0 : -9223372036854775808 ≤ x) (h1 : x ≤ 9223372036854775807) : wrap64 x = x := by unfold wrap64; omega
theorem u64_wrap (x : Int) : IntKind.u64.wrap x = x % 18446744073709551616 := by
  simp [IntKind.wrap, IntKind.bits, IntKind.signed]
def Same (v : Value) (w : World) (e : Ending) (w' : World) : Prop := e = .returned v ∧ w = w'
/-- It returns v, and what was there lies as it lay. -/
def Gives (v : Value) (w : World) (e : Ending) (w' : World) : Prop := e = .returned v ∧ Below w.heap.size w w'
/-- A scope with jumps ahead: at a jump the run goes on from its label, at most n times. -/
def Hop (P : Program) (c : Code) (Q : Exit → Act → World → Prop) : Nat → Exit → Act → World → Prop
  | 0, .goto _, _, _ => False
  | n + 1, .goto l, a, w => ∃ rest, findLabel c l = some rest ∧ rest.wp P (Hop P c Q n) a w
  | _, e, a, w => Q e a w
theorem Hop.ret {P : Program} {c : Code} {Q : Exit → Act → World → Prop} {n : Nat} {a : Act} {w : World} : Hop P c Q n .ret a w = Q .ret a w := by cases n <;> rfl
theorem Hop.go {P : Program} {c rest : Code} {Q : Exit → Act → World → Prop} {K : Act → World → Prop} {n l : Nat} {a : Act} {w : World} (h : findLabel c l = some rest) (h2 : rest.wp P (Hop P c Q n) a w) : Exit.then K (Hop P c Q (n + 1)) (.goto l) a w := ⟨rest, h, h2⟩
theorem Hop.goto {P : Program} {c : Code} {Q : Exit → Act → World → Prop} {n l : Nat} {a : Act} {w : World} : Hop P c Q (n + 1) (.goto l) a w = ∃ rest, findLabel c l = some rest ∧ rest.wp P (Hop P c Q n) a w := rfl
theorem scope_hops {P : Program} {a : Act} {w : World} {Q : Exit → Act → World → Prop} {c : Code} (n : Nat) (h : c.wp P (Hop P c Q n) a w) : (Code.scope c).wp P Q a w := by
  intro b k cs
  have key : ∀ n e a₁ w₁, Hop P c Q n e a₁ w₁ → Arrives P (lone (b.at a (.code c :: .inScope c :: k)) cs w) b (.inScope c :: k) cs e a₁ w₁ → ∃ e a' w', Q e a' w' ∧ Arrives P (lone (b.at a (.code c :: .inScope c :: k)) cs w) b k cs e a' w' := by
    intro n
    induction n with
    | zero =>
      intro e a₁ w₁ hq harr
      cases e with
      | normal => exact ⟨.normal, a₁, w₁, hq, Steps.trans harr (.one step_inScope)⟩
      | exit id => exact ⟨.exit id, a₁, w₁, hq, fun k' hk => harr k' (by simp [exitTo, hk])⟩
      | goto l' => exact hq.elim
      | ret => exact ⟨_, a₁, w₁, hq, harr⟩
      | panic ch => exact ⟨_, a₁, w₁, hq, harr⟩
      | outgrown => exact ⟨_, a₁, w₁, hq, harr⟩
    | succ n ih =>
      intro e a₁ w₁ hq harr
      cases e with
      | normal => exact ⟨.normal, a₁, w₁, hq, Steps.trans harr (.one step_inScope)⟩
      | exit id => exact ⟨.exit id, a₁, w₁, hq, fun k' hk => harr k' (by simp [exitTo, hk])⟩
      | goto l' =>
        obtain ⟨rest, hf, hr⟩ := hq
        have hg : gotoIn l' (.inScope c :: k) = some (.code rest :: .inScope c :: k) := by simp [gotoIn, hf]
        obtain ⟨e₂, a₂, w₂, hq₂, harr₂⟩ := hr b (.inScope c :: k) cs
        exact ih e₂ a₂ w₂ hq₂ (.of_steps (harr _ hg) harr₂)
      | ret => exact ⟨_, a₁, w₁, hq, harr⟩
      | panic ch => exact ⟨_, a₁, w₁, hq, harr⟩
      | outgrown => exact ⟨_, a₁, w₁, hq, harr⟩
  obtain ⟨e, a₁, w₁, hq, harr⟩ := h b (.inScope c :: k) cs
  obtain ⟨e₂, a₂, w₂, hq₂, harr₂⟩ := key n e a₁ w₁ hq harr
  exact ⟨e₂, a₂, w₂, hq₂, .of_steps (.one step_scope) harr₂⟩
set_option maxHeartbeats 2000000 in
/-- route.Groups. -/
theorem groups_any (log : Int) (w : World) : Calls Try.prog 20 #[.int .i64 log] w (Same (.int .i64 (Tb.grp log : Nat)) w) := by
  by_cases h : 0 ≤ log
  · have h' : ¬ log < 0 := by omega
    by_cases h2 : 9 < log
    · rw [Tb.grp_out (.inr h2)]
      go_enter Try.func20, Try.ntmps20
      go_wp2
      go_ret
      exact ⟨rfl, rfl⟩
    · rcases Tb.ten h (by omega) with rfl | rfl | rfl | rfl | rfl | rfl | rfl | rfl | rfl | rfl
      all_goals
        go_enter Try.func20, Try.ntmps20
        go_wp2
        go_ret
        exact ⟨rfl, rfl⟩
  · have h' : log < 0 := by omega
    rw [Tb.grp_out (.inl h')]
    go_enter Try.func20, Try.ntmps20
    go_wp2
    go_ret
    exact ⟨rfl, rfl⟩
set_option maxRecDepth 100000 in
set_option maxHeartbeats 2000000 in
/-- The document's Groups: doublings. -/
theorem rgroups_any (log : Int) (w : World) : Calls Try.prog 22 #[.int .i64 log] w (Same (.int .i64 (Tb.grp log : Nat)) w) := by
  by_cases h : 0 ≤ log
  · have h' : ¬ log < 0 := by omega
    by_cases h2 : 9 < log
    · rw [Tb.grp_out (.inr h2)]
      go_enter Try.func22, Try.ntmps22
      go_wp2
      go_ret
      exact ⟨rfl, rfl⟩
    · rw [Tb.grp_in h (by omega)]
      go_enter Try.func22, Try.ntmps22
      go_wp2
      go_loop [3, 4] (fun u c => ∃ k : Nat, (k : Int) ≤ log ∧ c = .int .i64 k ∧ u = .int .i64 ((2 ^ k : Nat) : Int)) (fun _ c => (log - intOf c).toNat)
      case atStart => exact ⟨0, by omega, rfl, rfl⟩
      case round =>
        obtain ⟨k, hk, rfl, rfl⟩ := hrel
        have hp : 2 ^ k ≤ 2 ^ 9 := Nat.pow_le_pow_right (by omega) (by omega)
        have hp1 : (2 ^ k : Nat) ≤ 512 := hp
        clear hp
        by_cases hlt : (k : Int) < log
        · have hpw : ((2 ^ (k + 1) : Nat) : Int) = 2 * ((2 ^ k : Nat) : Int) := by rw [Nat.pow_succ]; omega
          have Hpw := Lib.hid hpw; clear hpw
          generalize hq : (2 ^ k : Nat) = q at hp1 Hpw ⊢
          go_wp2
          go_round
          case rel => exact ⟨k + 1, by omega, by go_num, by rw [Hpw.out]⟩
          case measure => simp [intOf]; omega
        · obtain rfl : log = k := by omega
          go_wp2
          go_ret
          exact ⟨rfl, rfl⟩
  · have h' : log < 0 := by omega
    rw [Tb.grp_out (.inl h')]
    go_enter Try.func22, Try.ntmps22
    go_wp2
    go_ret
    exact ⟨rfl, rfl⟩
/-- A place, as a value. -/
def pv (p : Int × Int × Int) : Value := .agg #[.int .i64 p.1, .int .i64 p.2.1, .int .i64 p.2.2]
set_option maxRecDepth 100000 in
set_option maxHeartbeats 2000000 in
/-- table.Where. -/
theorem where_any (log c : Int) (w : World) (h0 : -9223372036854775808 ≤ c) (h1 : c ≤ 9223372036854775807) : Calls Try.prog 5 #[.int .i64 log, .int .i64 c] w (Gives (pv (Tb.plc (Tb.grp log) c)) w) := by
  have G := Lib.hid (fun w => groups_any log w)
  have hn := Tb.grp_le log
  generalize Tb.grp log = n at *
  rcases Tb.plc_ways n c with ⟨a, e⟩ | ⟨a, k0, e⟩ | ⟨a, k0, k1, e⟩ | ⟨a, k0, k1, e⟩ | ⟨a, k0, k1, k2, e⟩ | ⟨a, k0, k1, k2, e⟩
  · rw [e]; clear e
    subst a
    go_enter Try.func5, Try.ntmps5
    go_wp2_with fail
    refine scope_hops 3 ?_
    go_wp2_with fail
    with_reducible refine (G.out _).mono ?_
    rintro e w1 ⟨rfl, rfl⟩
    go_wp2
    go_step3
    refine Hop.go rfl ?_
    go_wp2
    rw [Hop.ret]
    exact bodyPost_ret (v := pv (0, 0, 0)) (by simp [results, Try.results5, go_sem, pv]) rfl ⟨rfl, (Below.refl _ _).alloc (Nat.le_refl _) _⟩
  · rw [e]; clear e
    have a' : ((n : Int) == 0) = false := by simpa using a
    go_enter Try.func5, Try.ntmps5
    go_wp2_with fail
    refine scope_hops 3 ?_
    go_wp2_with fail
    with_reducible refine (G.out _).mono ?_
    rintro e w1 ⟨rfl, rfl⟩
    go_wp2
    go_step3
    refine Hop.go rfl ?_
    go_wp2
    rw [Hop.ret]
    exact bodyPost_ret (v := pv (0, 0, 0)) (by simp [results, Try.results5, go_sem, pv]) rfl ⟨rfl, (Below.refl _ _).alloc (Nat.le_refl _) _⟩
  · rw [e]; clear e
    have a' : ((n : Int) == 0) = false := by simpa using a
    have a0 : (c < 0) = False := by simp; omega
    go_enter Try.func5, Try.ntmps5
    go_wp2_with fail
    refine scope_hops 3 ?_
    go_wp2_with fail
    with_reducible refine (G.out _).mono ?_
    rintro e w1 ⟨rfl, rfl⟩
    go_wp2
    rw [Hop.ret]
    exact bodyPost_ret (v := pv (1, 0, 0)) (by simp [results, Try.results5, go_sem, pv]) rfl ⟨rfl, (Below.refl _ _).alloc (Nat.le_refl _) _⟩
  · rw [e]; clear e
    have a' : ((n : Int) == 0) = false := by simpa using a
    have a0 : (c < 0) = False := by simp; omega
    go_enter Try.func5, Try.ntmps5
    go_wp2_with fail
    refine scope_hops 3 ?_
    go_wp2_with fail
    with_reducible refine (G.out _).mono ?_
    rintro e w1 ⟨rfl, rfl⟩
    go_wp2
    go_step3
    refine Hop.go rfl ?_
    go_wp2
    rw [Hop.ret]
    exact bodyPost_ret (v := pv (2, c - 7, 0)) (by simp [results, Try.results5, go_sem, pv]) rfl ⟨rfl, (Below.refl _ _).alloc (Nat.le_refl _) _⟩
  · rw [e]; clear e
    have a' : ((n : Int) == 0) = false := by simpa using a
    have a0 : (c < 0) = False := by simp; omega
    go_enter Try.func5, Try.ntmps5
    go_wp2_with fail
    refine scope_hops 3 ?_
    go_wp2_with fail
    with_reducible refine (G.out _).mono ?_
    rintro e w1 ⟨rfl, rfl⟩
    go_wp2
    go_step3
    refine Hop.go rfl ?_
    go_wp2
    go_step3
    refine Hop.go rfl ?_
    go_wp2
    rw [Hop.ret]
    exact bodyPost_ret (v := pv (3, (c - 7 - (n : Int)) / 8, (c - 7 - (n : Int)) % 8)) (by simp [results, Try.results5, go_sem, pv]) rfl ⟨rfl, (Below.refl _ _).alloc (Nat.le_refl _) _⟩
  · rw [e]; clear e
    have a' : ((n : Int) == 0) = false := by simpa using a
    have a0 : (c < 0) = False := by simp; omega
    go_enter Try.func5, Try.ntmps5
    go_wp2_with fail
    refine scope_hops 3 ?_
    go_wp2_with fail
    with_reducible refine (G.out _).mono ?_
    rintro e w1 ⟨rfl, rfl⟩
    go_wp2
    go_step3
    refine Hop.go rfl ?_
    go_wp2
    go_step3
    refine Hop.go rfl ?_
    go_wp2
    go_step3
    refine Hop.go rfl ?_
    go_wp2
    rw [Hop.ret]
    exact bodyPost_ret (v := pv (0, 0, 0)) (by simp [results, Try.results5, go_sem, pv]) rfl ⟨rfl, (Below.refl _ _).alloc (Nat.le_refl _) _⟩
end Go.Proofs.Ythfofninfjcdhaa
