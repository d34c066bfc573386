/-
  The walks of the document's GroupCell, SlotCell, All and Where, and of Right, the program's and the document's. By an AI agent.
-/
import Derived.Test.YthfofninfjcdhaaTableCells
import Derived.OwnWalk
import Derived.Maps.AppendAt
import Derived.Laws.OwnMore
set_option linter.unusedSimpArgs false
set_option linter.unusedVariables false
namespace Go.Proofs.Ythfofninfjcdhaa
open Go.RowKit
set_option maxRecDepth 100000 in
set_option maxHeartbeats 2000000 in
theorem rgroup_any (log g : Int) (w : World) (g0 : -9223372036854775808 ≤ g) (g1 : g ≤ 9223372036854775807) : Calls Try.prog 16 #[.int .i64 log, .int .i64 g] w (Same (.int .i64 (Tb.gc (Tb.grp log) g)) w) := by
  have G := Lib.hid (fun w => rgroups_any log w)
  have hn := Tb.grp_le log
  generalize Tb.grp log = n at *
  by_cases a : g < 0
  · rw [Tb.gc_out (.inl a)]
    go_enter Try.func16, Try.ntmps16
    go_wp2
    go_ret
    exact ⟨rfl, rfl⟩
  · by_cases b : (n : Int) ≤ g
    · rw [Tb.gc_out (.inr b)]
      go_enter Try.func16, Try.ntmps16
      go_wp2_with fail
      with_reducible refine (G.out _).mono ?_
      rintro e w1 ⟨rfl, rfl⟩
      go_wp2
      go_ret
      exact ⟨rfl, rfl⟩
    · rw [Tb.gc_in (by omega) (by omega)]
      go_enter Try.func16, Try.ntmps16
      go_wp2_with fail
      with_reducible refine (G.out _).mono ?_
      rintro e w1 ⟨rfl, rfl⟩
      go_wp2
      go_ret
      exact ⟨ret_int (by omega), rfl⟩
set_option maxRecDepth 100000 in
set_option maxHeartbeats 2000000 in
theorem rslot_any (log g s : Int) (w : World) (g0 : -9223372036854775808 ≤ g) (g1 : g ≤ 9223372036854775807) (s0 : -9223372036854775808 ≤ s) (s1 : s ≤ 9223372036854775807) : Calls Try.prog 18 #[.int .i64 log, .int .i64 g, .int .i64 s] w (Same (.int .i64 (Tb.sc (Tb.grp log) g s)) w) := by
  have G := Lib.hid (fun w => rgroups_any log w)
  have hn := Tb.grp_le log
  generalize Tb.grp log = n at *
  by_cases a : g < 0
  · rw [Tb.sc_out (.inl a)]
    go_enter Try.func18, Try.ntmps18
    go_wp2_with fail
    with_reducible refine (G.out _).mono ?_
    rintro e w1 ⟨rfl, rfl⟩
    go_wp2
    go_ret
    exact ⟨rfl, rfl⟩
  · by_cases b : (n : Int) ≤ g
    · rw [Tb.sc_out (.inr (.inl b))]
      go_enter Try.func18, Try.ntmps18
      go_wp2_with fail
      with_reducible refine (G.out _).mono ?_
      rintro e w1 ⟨rfl, rfl⟩
      go_wp2
      go_ret
      exact ⟨rfl, rfl⟩
    · by_cases c : s < 0
      · rw [Tb.sc_out (.inr (.inr (.inl c)))]
        go_enter Try.func18, Try.ntmps18
        go_wp2_with fail
        with_reducible refine (G.out _).mono ?_
        rintro e w1 ⟨rfl, rfl⟩
        go_wp2
        go_ret
        exact ⟨rfl, rfl⟩
      · by_cases d : 7 < s
        · rw [Tb.sc_out (.inr (.inr (.inr (by omega))))]
          go_enter Try.func18, Try.ntmps18
          go_wp2_with fail
          with_reducible refine (G.out _).mono ?_
          rintro e w1 ⟨rfl, rfl⟩
          go_wp2
          go_ret
          exact ⟨rfl, rfl⟩
        · rw [Tb.sc_in (by omega) (by omega) (by omega) (by omega)]
          go_enter Try.func18, Try.ntmps18
          go_wp2_with fail
          with_reducible refine (G.out _).mono ?_
          rintro e w1 ⟨rfl, rfl⟩
          go_wp2
          go_ret
          exact ⟨ret_int (by omega), rfl⟩
/-- A place's cells. -/
def cs3 (p : Int × Int × Int) : List Value := [.int .i64 p.1, .int .i64 p.2.1, .int .i64 p.2.2]
/-- The first m places of n groups, as cells. -/
def rows3 (n m : Nat) : List Value := (List.range m).flatMap fun (c : Nat) => cs3 (Tb.plc n (c : Int))
theorem rows3_succ (n m : Nat) : rows3 n (m + 1) = rows3 n m ++ cs3 (Tb.plc n (m : Int)) := by simp [rows3, List.range_succ]
theorem rows3_at (n m : Nat) {i : Nat} (h : i < m) {j : Nat} (hj : j < 3) : (rows3 n m)[i * 3 + j]? = (cs3 (Tb.plc n (i : Int)))[j]? := by
  have hl : ∀ m, (rows3 n m).length = m * 3 := fun m => by
    induction m with
    | zero => rfl
    | succ m ih => rw [rows3_succ, List.length_append, ih]; simp [cs3]; omega
  induction m with
  | zero => omega
  | succ m ih =>
    rw [rows3_succ]
    by_cases e : i < m
    · rw [List.getElem?_append_left (by rw [hl]; omega), ih e]
    · obtain rfl : i = m := by omega
      rw [List.getElem?_append_right (by rw [hl]; omega), hl, show i * 3 + j - i * 3 = j by omega]
theorem cell_three (W : World) (a b c : Int) (t : TypeId) : ∀ j u, [Value.int .i64 a, .int .i64 b, .int .i64 c][j]? = some u → (W.alloc (.cells #[.int .i64 a, .int .i64 b, .int .i64 c] t)).cell? ((⟨W.heap.size, 0, none⟩ : Addr).add j) = some u := by
  intro j u hj
  rw [Addr.add_lit, Nat.zero_add, World.cell?_alloc_new]
  simpa using hj
theorem info_place : (Try.prog.info? 29).map (fun i => (i.zero, i.size, i.bytes)) = some (some (.agg #[.int .i64 0, .int .i64 0, .int .i64 0]), 3, 24) := by kernel_rfl
/-- So far m places. -/
def Half (w : World) (n m : Nat) (v : Value) (W : World) : Prop := W.ownsRow w.heap.size 29 3 v m (rows3 n m) ∧ Below w.heap.size w W
/-- All places are told. -/
def Told (n m : Nat) (w : World) (e : Ending) (W : World) : Prop := ∃ v, e = .returned v ∧ Half w n m v W
theorem Half.next {w W W1 : World} {n m : Nat} {v v' : Value} {o : Obj} (h : Half w n m v W) (hown : W1.ownsRow w.heap.size 29 3 v' (m + 1) (rows3 n m ++ cs3 (Tb.plc n (m : Int)))) (hg : (W.alloc o).grownBy W1 v.ownBlock) : Half w n (m + 1) v' W1 :=
  ⟨by rw [rows3_succ]; exact hown, (h.2.alloc h.2.size _).grown hg (by have := h.2.size; simp; omega) (fun j e => (h.1.lt j e).1)⟩
/-- How many places there are. -/
def Tb.tot (n : Nat) : Nat := if n = 0 then 0 else 7 + 9 * n
set_option maxRecDepth 100000 in
set_option maxHeartbeats 4000000 in
/-- The document's All. -/
theorem all_any (log : Int) (w : World) : Calls Try.prog 21 #[.int .i64 log] w (Told (Tb.grp log) (Tb.tot (Tb.grp log)) w) := by
  have G := Lib.hid (fun w => rgroups_any log w)
  have hn := Tb.grp_le log
  generalize Tb.grp log = n at *
  obtain ⟨i0, hi, hz0, hz1, hz2⟩ := info_parts info_place
  have Hz0 := Lib.hid hz0; clear hz0
  have Hz1 := Lib.hid hz1; clear hz1
  have Hz2 := Lib.hid hz2; clear hz2
  have Hi := Lib.hid hi; clear hi
  have H0 : Hid (Half w n 0 (.slice (some ⟨w.heap.size, 0, none⟩) 0 0) (w.alloc (.cells #[] 29))) := Lib.hid ⟨World.ownsRow_lit (base := w.heap.size) (e := 29) (size := 3) w #[] 0 (Nat.le_refl _) (by decide) (by decide), (Below.refl _ w).alloc (Nat.le_refl _) _⟩
  rcases Nat.eq_zero_or_pos n with a | a
  · subst a
    have z : Tb.tot 0 = 0 := rfl
    rw [z]
    go_enter Try.func21, Try.ntmps21
    go_wp2_with fail
    with_reducible refine (G.out _).mono ?_
    rintro e w1 ⟨rfl, rfl⟩
    go_wp2
    go_loopw [3, 5] (fun v i wr => v = .slice (some ⟨w.heap.size, 0, none⟩) 0 0 ∧ i = .int .i64 0 ∧ wr = w.alloc (.cells #[] 29)) (fun _ _ _ => 0)
    case atStart => exact ⟨rfl, rfl, rfl⟩
    case round =>
      obtain ⟨rfl, rfl, rfl⟩ := hrel
      go_wp2
      go_loopw [3, 6] (fun v i wr => v = .slice (some ⟨w.heap.size, 0, none⟩) 0 0 ∧ i = .int .i64 0 ∧ wr = w.alloc (.cells #[] 29)) (fun _ _ _ => 0)
      case atStart => exact ⟨rfl, rfl, rfl⟩
      case round =>
        obtain ⟨rfl, rfl, rfl⟩ := hrel
        go_wp2
        go_loopw [3, 7, 8] (fun v i _ wr => v = .slice (some ⟨w.heap.size, 0, none⟩) 0 0 ∧ i = .int .i64 0 ∧ wr = w.alloc (.cells #[] 29)) (fun _ _ _ _ => 0)
        case atStart => exact ⟨rfl, rfl, rfl⟩
        case round =>
          obtain ⟨rfl, rfl, rfl⟩ := hrel
          go_wp2
          go_ret
          exact ⟨_, rfl, H0.out⟩
  · have z : Tb.tot n = 7 + 9 * n := if_neg (by omega)
    rw [z]
    have hnZ : decide ((0 : Int) < (n : Int)) = true := by simp; omega
    go_enter Try.func21, Try.ntmps21
    go_wp2_with fail
    with_reducible refine (G.out _).mono ?_
    rintro e w1 ⟨rfl, rfl⟩
    go_wp2
    go_loopw [3, 5] (fun v i wr => ∃ k : Nat, k ≤ 7 ∧ i = .int .i64 k ∧ Hid (Half w n k v wr)) (fun _ i _ => 7 - (intOf i).toNat)
    case atStart => exact ⟨0, by omega, rfl, H0⟩
    case round =>
      clear H0
      obtain ⟨k, hk, rfl, HH⟩ := hrel
      by_cases hlt : k < 7
      · have hltZ : (k : Int) < 7 := by omega
        have e := Tb.plc_head (n := n) (c := (k : Int)) a (by omega) (by omega)
        have E := Lib.hid e; clear e
        have hs := HH.out.2.size
        go_wp2_with (at_builtin; refine wpList_append_own_at _ rfl _ _ 39 rfl w.heap.size 29 i0 _ 3 24 Try.underlying39 Hi.out Hz0.out Hz1.out Hz2.out rfl (by decide) _ _ _ rfl (HH.out.1.alloc _) ⟨_, 0, none⟩ 1 1 [.int .i64 1, .int .i64 0, .int .i64 0] rfl rfl (cell_three _ _ _ _ _) (by simp [Value.oneCell']) (by unfold maxLen; omega) (by omega) (by simp; omega) ?_; intro v' w3 hown' hgrow _ _)
        have HN := Lib.hid (HH.out.next (by rw [E.out]; exact hown') hgrow)
        clear hown' hgrow
        go_wp2
        go_roundw
        all_goals first | exact ⟨k + 1, by omega, by go_num, HN⟩ | (simp [intOf]; omega)
      · obtain rfl : k = 7 := by omega
        go_wp2
        rw [show ((7 : Nat) : Int) = 7 from rfl]
        go_loopw [3, 6] (fun v i wr => ∃ k : Nat, k ≤ n ∧ i = .int .i64 k ∧ Hid (Half w n (7 + k) v wr)) (fun _ i _ => n - (intOf i).toNat)
        case atStart => exact ⟨0, by omega, rfl, HH⟩
        case round =>
          clear HH
          obtain ⟨k, hk, rfl, HH⟩ := hrel
          by_cases hlt : k < n
          · have hltZ : (k : Int) < (n : Int) := by omega
            have e := Tb.plc_group (n := n) (g := (k : Int)) (by omega) (by omega)
            have E := Lib.hid (show Tb.plc n ((7 + k : Nat) : Int) = (2, (k : Int), 0) by rw [← e]; congr 1 <;> omega); clear e
            have hs := HH.out.2.size
            go_wp2_with (at_builtin; refine wpList_append_own_at _ rfl _ _ 39 rfl w.heap.size 29 i0 _ 3 24 Try.underlying39 Hi.out Hz0.out Hz1.out Hz2.out rfl (by decide) _ _ _ rfl (HH.out.1.alloc _) ⟨_, 0, none⟩ 1 1 [.int .i64 2, .int .i64 (k : Int), .int .i64 0] rfl rfl (cell_three _ _ _ _ _) (by simp [Value.oneCell']) (by unfold maxLen; omega) (by omega) (by simp; omega) ?_; intro v' w3 hown' hgrow _ _)
            have HN := Lib.hid (HH.out.next (by rw [E.out]; exact hown') hgrow)
            clear hown' hgrow
            go_wp2
            go_roundw
            all_goals first | exact ⟨k + 1, by omega, by go_num, HN⟩ | (simp [intOf]; omega)
          · obtain rfl : k = n := by omega
            go_wp2
            go_loopw [3, 7, 8] (fun v i _ wr => ∃ m : Nat, m ≤ k ∧ i = .int .i64 m ∧ Hid (Half w k (7 + k + 8 * m) v wr)) (fun _ i _ _ => k - (intOf i).toNat)
            case atStart => exact ⟨0, by omega, rfl, HH⟩
            case round =>
              clear HH
              obtain ⟨m, hm, rfl, HH⟩ := hrel
              by_cases hlt' : m < k
              · have hltZ' : (m : Int) < (k : Int) := by omega
                go_wp2
                go_loopw [3, 8] (fun v i wr => ∃ s : Nat, s ≤ 8 ∧ i = .int .i64 s ∧ Hid (Half w k (7 + k + 8 * m + s) v wr)) (fun _ i _ => 8 - (intOf i).toNat)
                case atStart => exact ⟨0, by omega, rfl, HH⟩
                case round =>
                  clear HH
                  obtain ⟨s, hs, rfl, HH⟩ := hrel
                  by_cases hlt2 : s < 8
                  · have hltZ2 : (s : Int) < 8 := by omega
                    have e := Tb.plc_slot (n := k) (g := (m : Int)) (s := (s : Int)) (by omega) (by omega) (by omega) (by omega)
                    have E := Lib.hid (show Tb.plc k ((7 + k + 8 * m + s : Nat) : Int) = (3, (m : Int), (s : Int)) by rw [← e]; congr 1 <;> omega); clear e
                    have hs := HH.out.2.size
                    go_wp2_with (at_builtin; refine wpList_append_own_at _ rfl _ _ 39 rfl w.heap.size 29 i0 _ 3 24 Try.underlying39 Hi.out Hz0.out Hz1.out Hz2.out rfl (by decide) _ _ _ rfl (HH.out.1.alloc _) ⟨_, 0, none⟩ 1 1 [.int .i64 3, .int .i64 (m : Int), .int .i64 (s : Int)] rfl rfl (cell_three _ _ _ _ _) (by simp [Value.oneCell']) (by unfold maxLen; omega) (by omega) (by simp; omega) ?_; intro v' w3 hown' hgrow _ _)
                    have HN := Lib.hid (HH.out.next (by rw [E.out]; exact hown') hgrow)
                    clear hown' hgrow
                    go_wp2
                    go_roundw
                    all_goals first | exact ⟨s + 1, by omega, by go_num, HN⟩ | (simp [intOf]; omega)
                  · obtain rfl : s = 8 := by omega
                    go_wp2
                    exact ⟨⟨m + 1, by omega, by go_num, Lib.hid (by have := HH.out; rwa [show 7 + k + 8 * m + 8 = 7 + k + 8 * (m + 1) by omega] at this)⟩, by simp [intOf]; omega⟩
              · obtain rfl : m = k := by omega
                have HH' : Hid (Half w m (7 + 9 * m) _ _) := Lib.hid (by have := HH.out; rwa [show 7 + m + 8 * m = 7 + 9 * m by omega] at this)
                go_wp2
                go_ret
                exact ⟨_, rfl, HH'.out⟩
end Go.Proofs.Ythfofninfjcdhaa
