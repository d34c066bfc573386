/-
  Several texts in one: Lists of numbers, their comparison, and the walks of the document's own Group and All; The walks of the document's GroupCell, SlotCell, All and Where, and of Right, the program's and the document's. By an AI agent.
-/
import Derived.Test.YtknefjigdlbacaaGreatDoorSkKBA
import Derived.Test.YtknefjigdlbacaaGreatDoorSkKAU
import Derived.OwnWalk
import Derived.Maps.AppendAt
import Derived.Laws.OwnMore
namespace Go.Proofs.YtknefjigdlbacaaGreatDoor
open Go.RowKit
/-- A slice's address under which the numbers xs lie, below block B. -/
def Slr (w : World) (B : Nat) (A : Option Addr) (xs : List Int) : Prop :=
  xs = [] ∨ ∃ b off, A = some ⟨b, off, none⟩ ∧ b < B ∧ ∀ j (h : j < xs.length), w.cell? ⟨b, off + j, none⟩ = some (.int .i64 xs[j])
theorem Slr.below {w w' : World} {B : Nat} {A : Option Addr} {xs : List Int} (h : Slr w B A xs) (hb : Below B w w') : Slr w' B A xs := by
  rcases h with h | ⟨b, off, rfl, hlt, hc⟩
  · exact .inl h
  · exact .inr ⟨b, off, rfl, hlt, fun j hj => (hb.cell (p := ⟨b, off + j, none⟩) hlt).trans (hc j hj)⟩
theorem Slr.mono {w : World} {B B' : Nat} {A : Option Addr} {xs : List Int} (h : Slr w B A xs) (hb : B ≤ B') : Slr w B' A xs := by
  rcases h with h | ⟨b, off, rfl, hlt, hc⟩
  · exact .inl h
  · exact .inr ⟨b, off, rfl, by omega, hc⟩
theorem Slr.of_own {w : World} {base n : Nat} {A : Option Addr} {c : Nat} {xs : List Int} (h : w.ownsRow base 3 1 (.slice A n c) n (xs.map (Value.int .i64))) : Slr w w.heap.size A xs := by
  rcases h.2 with ⟨hv, rfl⟩ | ⟨g, cap, cur, hv, _, hg, _⟩
  · have := h.1; simp at this; exact .inl this
  · simp only [Value.slice.injEq] at hv
    obtain ⟨rfl, -, rfl⟩ := hv
    refine .inr ⟨g, 0, rfl, (Array.getElem?_eq_some_iff.1 hg).1, fun j hj => ?_⟩
    have hl := h.1
    simp at hl
    rw [Nat.zero_add, h.cellAt j (by omega)]
    simp [hj]
theorem info_int : (Tryz.prog.info? 3).map (fun i => (i.zero, i.size, i.bytes)) = some (some (.int .i64 0), 1, 8) := by kernel_rfl
/-- What is handed back is a list of numbers of the call's own. -/
def RowOf (xs : List Int) (w : World) (e : Ending) (w' : World) : Prop := ∃ A c, e = .returned (.slice A xs.length c) ∧ w'.ownsRow w.heap.size 3 1 (.slice A xs.length c) xs.length (xs.map (Value.int .i64)) ∧ Below w.heap.size w w'
theorem rowOf_of {xs : List Int} {w w' : World} {v : Value} (hrow : w'.ownsRow w.heap.size 3 1 v xs.length (xs.map (Value.int .i64))) (hb : Below w.heap.size w w') : RowOf xs w (.returned v) w' := by
  rcases hrow.2 with ⟨rfl, h0⟩ | ⟨g, cap, cur, rfl, _⟩
  · refine ⟨none, 0, ?_, ?_, hb⟩
    · rw [h0]
    · rw [h0] at hrow ⊢; exact hrow
  · exact ⟨_, _, rfl, hrow, hb⟩
theorem rgroup_num1 {q t m : Nat} {z : Int} (hq : q ≤ 512) (ht : t ≤ 130816) (hz : z = 2 * (t : Int)) :
    (wrap64 (wrap64 (q : Int) + wrap64 ((wrap64 z).tdiv 2))).tmod (m : Int) = (((q + t) % m : Nat) : Int) := by
  subst hz
  rw [wrap64_small (x := 2 * (t : Int)) (by omega) (by omega), Int.mul_tdiv_cancel_left _ (by omega), wrap64_small (x := (t : Int)) (by omega) (by omega), wrap64_small (x := (q : Int)) (by omega) (by omega), wrap64_small (x := (q : Int) + (t : Int)) (by omega) (by omega),
    Int.tmod_eq_emod_of_nonneg (by omega), Int.natCast_emod, Int.natCast_add]
theorem rgroup_num {h m k : Nat} (hm : 0 < m) (hg : m ≤ 512) (hk : k < m) :
    (wrap64 (wrap64 ((h : Int) / 128 % (m : Int)) + wrap64 ((wrap64 ((k : Int) * ((k : Int) + 1))).tdiv 2))).tmod (m : Int) = ((Rt.gat (h / 128) m k : Nat) : Int) := by
  have a5 : (h : Int) / 128 % (m : Int) = ((h / 128 % m : Nat) : Int) := by rw [Int.natCast_emod, Int.natCast_ediv]; rfl
  have a6 : h / 128 % m < m := Nat.mod_lt _ hm
  have a9 : Rt.gat (h / 128) m k = (h / 128 % m + Rt.tri k) % m := by unfold Rt.gat; rw [Nat.mod_add_mod]
  have a1 : (k : Int) * ((k : Int) + 1) = 2 * ((Rt.tri k : Nat) : Int) := by
    have h2 := Rt.tri_two k
    have h3 : ((2 * Rt.tri k : Nat) : Int) = ((k * (k + 1) : Nat) : Int) := by rw [h2]
    rw [Int.natCast_mul, Int.natCast_mul, Int.natCast_add] at h3
    exact h3.symm
  rw [a5, a9]
  exact rgroup_num1 (by omega) (Rt.tri_le (by omega)) a1
set_option maxHeartbeats 2000000 in
/-- The document's Group. -/
theorem rgroup_any (h : Nat) (hh : h ≤ 18446744073709551615) (log i : Int) (w : World) : Calls Tryz.prog 101 #[.int .u64 (h : Int), .int .i64 log, .int .i64 i] w (Same (.int .i64 (Rt.gp h log i)) w) := by
  have hg := Rt.grp_le log
  obtain ⟨m, hm⟩ : ∃ m, m = Rt.grp log := ⟨_, rfl⟩
  by_cases h0 : 0 ≤ i
  · have h0' : ¬ i < 0 := by omega
    by_cases h1 : (m : Int) ≤ i
    · rw [Rt.gp_out (.inr (by omega))]
      rw [← hm] at hg
      have Hm := Lib.hid hm; clear hm
      go_enter Tryz.func101, Tryz.ntmps101
      go_wp2_with (go_at_call 75; refine (rtrgroups_any _ _).mono ?_; rintro e w' ⟨rfl, rfl⟩; rw [← Hm.out])
      go_ret
      exact ⟨rfl, rfl⟩
    · obtain ⟨k, rfl⟩ := Int.eq_ofNat_of_zero_le h0
      rw [Rt.gp_in (by omega)]
      rw [← hm] at hg ⊢
      have Hm := Lib.hid hm; clear hm
      have ht := Rt.tri_le (i := k) (by omega)
      have h2 := Rt.tri_two k
      have e1 : IntKind.u64.wrap (m : Int) = (m : Int) := u64_wrap_small (by omega) (by omega)
      go_enter Tryz.func101, Tryz.ntmps101
      go_wp2_with (first | (go_at_call 75; refine (rtrgroups_any _ _).mono ?_; rintro e w' ⟨rfl, rfl⟩; rw [← Hm.out]) | (go_at_call 136; refine (rstart_any _ _ (by omega) (by omega)).mono ?_; rintro e w' ⟨rfl, rfl⟩))
      go_ret
      refine ⟨ret_int ?_, rfl⟩
      exact rgroup_num (by omega) (by omega) (by omega)
  · have h0' : i < 0 := by omega
    rw [Rt.gp_out (.inl h0')]
    rw [← hm] at hg
    have Hm := Lib.hid hm; clear hm
    go_enter Tryz.func101, Tryz.ntmps101
    go_wp2_with (go_at_call 75; refine (rtrgroups_any _ _).mono ?_; rintro e w' ⟨rfl, rfl⟩; rw [← Hm.out])
    go_ret
    exact ⟨rfl, rfl⟩
/-- Groups as whole numbers. -/
def asI (l : List Nat) : List Int := l.map fun k : Nat => (k : Int)
theorem asI_len (l : List Nat) : (asI l).length = l.length := by simp [asI]
theorem asI_snoc (l : List Nat) (k : Nat) : asI (l ++ [k]) = asI l ++ [(k : Int)] := by simp [asI]
set_option maxRecDepth 100000 in
set_option maxHeartbeats 2000000 in
/-- The document's All. -/
theorem rall_any (h : Nat) (hh : h ≤ 18446744073709551615) (log : Int) (w : World) : Calls Tryz.prog 45 #[.int .u64 (h : Int), .int .i64 log] w (RowOf (asI (Rt.way (h / 128) (Rt.grp log))) w) := by
  have hg := Rt.grp_le log
  unfold Rt.way
  obtain ⟨m, hm⟩ : ∃ m, m = Rt.grp log := ⟨_, rfl⟩
  have hgp : ∀ k : Nat, k < m → Rt.gp h log k = ((Rt.gat (h / 128) m k : Nat) : Int) := fun k hk => by rw [Rt.gp_in (by omega), hm]
  rw [← hm] at hg ⊢
  have Hm := Lib.hid hm; clear hm
  have Hgp := Lib.hid hgp; clear hgp
  obtain ⟨i0, hi, hz0, hz1, hz2⟩ := info_parts info_int
  have Hz0 := Lib.hid hz0; clear hz0
  have Hz1 := Lib.hid hz1; clear hz1
  have Hz2 := Lib.hid hz2; clear hz2
  have Hi := Lib.hid hi; clear hi
  go_enter Tryz.func45, Tryz.ntmps45
  go_wp2
  go_loopw [5, 6] (fun v i wr => ∃ k : Nat, k ≤ m ∧ i = .int .i64 k ∧ wr.ownsRow w.heap.size 3 1 v (asI (Rt.wayTo (h / 128) m k)).length ((asI (Rt.wayTo (h / 128) m k)).map (Value.int .i64)) ∧ Below w.heap.size w wr)
    (fun _ i _ => m - (intOf i).toNat)
  case atStart => exact ⟨0, by omega, rfl, World.ownsRow_lit (size := 1) w #[] 0 (Nat.le_refl _) (by decide) (by decide), (Below.refl _ _).alloc (Nat.le_refl _) _⟩
  case round =>
    obtain ⟨k, hk, rfl, hown, hB⟩ := hrel
    by_cases hlt : k < m
    · have hl : (asI (Rt.wayTo (h / 128) m k)).length = k := by rw [asI_len, Rt.wayTo_len]
      have Hl := Lib.hid hl; clear hl
      go_wp2_with (first | (go_at_call 75; refine (rtrgroups_any _ _).mono ?_; rintro e w' ⟨rfl, rfl⟩; rw [← Hm.out]) | (go_at_call 101; refine (rgroup_any _ hh _ _ _).mono ?_; rintro e w' ⟨rfl, rfl⟩; rw [Hgp.out _ hlt]) | (at_builtin; refine wpList_append_own _ rfl _ _ 50 rfl w.heap.size 3 i0 (.int .i64 0) 1 8 Tryz.underlying50 Hi.out Hz0.out Hz1.out Hz2.out rfl (by decide) _ _ _ rfl (hown.alloc _) ⟨wr.heap.size, 0, none⟩ 1 1 [.int .i64 (Rt.gat (h / 128) m k : Nat)] rfl rfl ?c1 ?c2 ?c3 ?c4 ?c5 ?_))
      case c1 => exact cell_one_new _ _ _
      case c2 => simp [Value.oneCell']
      case c3 => rw [Hl.out]; unfold maxLen; simp; omega
      case c4 => have := Hl.out; omega
      case c5 => have := hB.size; simp; omega
      intro v' w1 hown' hgrow _
      have hB1 : Below w.heap.size w w1 := (hB.alloc hB.size _).grown hgrow (by have := hB.size; simp; omega) (fun j e => (hown.lt j e).1)
      have hown2 : w1.ownsRow w.heap.size 3 1 v' (asI (Rt.wayTo (h / 128) m (k + 1))).length ((asI (Rt.wayTo (h / 128) m (k + 1))).map (Value.int .i64)) := by
        rw [Rt.wayTo_snoc, asI_snoc]; simpa using hown'
      clear hown' hgrow hown
      go_wp2
      go_roundw
      case rel => exact ⟨k + 1, by omega, by go_num, hown2, hB1⟩
      case measure => simp [intOf]; omega
    · obtain rfl : k = m := by omega
      go_wp2_with (go_at_call 75; refine (rtrgroups_any _ _).mono ?_; rintro e w' ⟨rfl, rfl⟩; rw [← Hm.out])
      go_ret
      exact rowOf_of hown hB
end Go.Proofs.YtknefjigdlbacaaGreatDoor
set_option linter.unusedSimpArgs false
set_option linter.unusedVariables false
namespace Go.Proofs.YtknefjigdlbacaaGreatDoor
open Go.RowKit
set_option maxRecDepth 100000 in
set_option maxHeartbeats 2000000 in
theorem trgroup_any (log g : Int) (w : World) (g0 : -9223372036854775808 ≤ g) (g1 : g ≤ 9223372036854775807) : Calls Tryz.prog 46 #[.int .i64 log, .int .i64 g] w (Same (.int .i64 (Tb.gc (Tb.grp log) g)) w) := by
  have G := Lib.hid (fun w => rgroups_any log w)
  have hn := Tb.grp_le log
  generalize Tb.grp log = n at *
  by_cases a : g < 0
  · rw [Tb.gc_out (.inl a)]
    go_enter Tryz.func46, Tryz.ntmps46
    go_wp2
    go_ret
    exact ⟨rfl, rfl⟩
  · by_cases b : (n : Int) ≤ g
    · rw [Tb.gc_out (.inr b)]
      go_enter Tryz.func46, Tryz.ntmps46
      go_wp2_with fail
      with_reducible refine (G.out _).mono ?_
      rintro e w1 ⟨rfl, rfl⟩
      go_wp2
      go_ret
      exact ⟨rfl, rfl⟩
    · rw [Tb.gc_in (by omega) (by omega)]
      go_enter Tryz.func46, Tryz.ntmps46
      go_wp2_with fail
      with_reducible refine (G.out _).mono ?_
      rintro e w1 ⟨rfl, rfl⟩
      go_wp2
      go_ret
      exact ⟨ret_int (by omega), rfl⟩
set_option maxRecDepth 100000 in
set_option maxHeartbeats 2000000 in
theorem trslot_any (log g s : Int) (w : World) (g0 : -9223372036854775808 ≤ g) (g1 : g ≤ 9223372036854775807) (s0 : -9223372036854775808 ≤ s) (s1 : s ≤ 9223372036854775807) : Calls Tryz.prog 49 #[.int .i64 log, .int .i64 g, .int .i64 s] w (Same (.int .i64 (Tb.sc (Tb.grp log) g s)) w) := by
  have G := Lib.hid (fun w => rgroups_any log w)
  have hn := Tb.grp_le log
  generalize Tb.grp log = n at *
  by_cases a : g < 0
  · rw [Tb.sc_out (.inl a)]
    go_enter Tryz.func49, Tryz.ntmps49
    go_wp2_with fail
    with_reducible refine (G.out _).mono ?_
    rintro e w1 ⟨rfl, rfl⟩
    go_wp2
    go_ret
    exact ⟨rfl, rfl⟩
  · by_cases b : (n : Int) ≤ g
    · rw [Tb.sc_out (.inr (.inl b))]
      go_enter Tryz.func49, Tryz.ntmps49
      go_wp2_with fail
      with_reducible refine (G.out _).mono ?_
      rintro e w1 ⟨rfl, rfl⟩
      go_wp2
      go_ret
      exact ⟨rfl, rfl⟩
    · by_cases c : s < 0
      · rw [Tb.sc_out (.inr (.inr (.inl c)))]
        go_enter Tryz.func49, Tryz.ntmps49
        go_wp2_with fail
        with_reducible refine (G.out _).mono ?_
        rintro e w1 ⟨rfl, rfl⟩
        go_wp2
        go_ret
        exact ⟨rfl, rfl⟩
      · by_cases d : 7 < s
        · rw [Tb.sc_out (.inr (.inr (.inr (by omega))))]
          go_enter Tryz.func49, Tryz.ntmps49
          go_wp2_with fail
          with_reducible refine (G.out _).mono ?_
          rintro e w1 ⟨rfl, rfl⟩
          go_wp2
          go_ret
          exact ⟨rfl, rfl⟩
        · rw [Tb.sc_in (by omega) (by omega) (by omega) (by omega)]
          go_enter Tryz.func49, Tryz.ntmps49
          go_wp2_with fail
          with_reducible refine (G.out _).mono ?_
          rintro e w1 ⟨rfl, rfl⟩
          go_wp2
          go_ret
          exact ⟨ret_int (by omega), rfl⟩
/-- A place's cells. -/
def cs3 (p : Int × Int × Int) : List Value := [.int .i64 p.1, .int .i64 p.2.1, .int .i64 p.2.2]
/-- The first m places of n groups, as cells. -/
def rows3 (n m : Nat) : List Value := (List.range m).flatMap fun (c : Nat) => cs3 (Tb.plc n (c : Int))
theorem rows3_succ (n m : Nat) : rows3 n (m + 1) = rows3 n m ++ cs3 (Tb.plc n (m : Int)) := by simp [rows3, List.range_succ]
theorem rows3_at (n m : Nat) {i : Nat} (h : i < m) {j : Nat} (hj : j < 3) : (rows3 n m)[i * 3 + j]? = (cs3 (Tb.plc n (i : Int)))[j]? := by
  have hl : ∀ m, (rows3 n m).length = m * 3 := fun m => by
    induction m with
    | zero => rfl
    | succ m ih => rw [rows3_succ, List.length_append, ih]; simp [cs3]; omega
  induction m with
  | zero => omega
  | succ m ih =>
    rw [rows3_succ]
    by_cases e : i < m
    · rw [List.getElem?_append_left (by rw [hl]; omega), ih e]
    · obtain rfl : i = m := by omega
      rw [List.getElem?_append_right (by rw [hl]; omega), hl, show i * 3 + j - i * 3 = j by omega]
theorem cell_three (W : World) (a b c : Int) (t : TypeId) : ∀ j u, [Value.int .i64 a, .int .i64 b, .int .i64 c][j]? = some u → (W.alloc (.cells #[.int .i64 a, .int .i64 b, .int .i64 c] t)).cell? ((⟨W.heap.size, 0, none⟩ : Addr).add j) = some u := by
  intro j u hj
  rw [Addr.add_lit, Nat.zero_add, World.cell?_alloc_new]
  simpa using hj
/-- How many places there are. -/
def Tb.tot (n : Nat) : Nat := if n = 0 then 0 else 7 + 9 * n
end Go.Proofs.YtknefjigdlbacaaGreatDoor
