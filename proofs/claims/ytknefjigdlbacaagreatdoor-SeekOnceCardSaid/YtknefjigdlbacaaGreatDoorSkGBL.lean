/-
  Several texts in one: How much a seek still has to do, at most: each act makes it less. Plain mathematics; A seek behind a list of answers: its crowd, its shield, its reader on the way. Plain mathematics. By an AI agent.
-/
import Derived.Test.YtknefjigdlbacaaGreatDoorSkGBK
import Derived.Test.YtknefjigdlbacaaGreatDoorSkGAE
set_option linter.unusedVariables false
set_option linter.unusedSimpArgs false
namespace Go.Proofs.YtknefjigdlbacaaGreatDoor
/-- What a part weighs: a is the crowd's count, b the shield's part, r the reader's count. -/
def pw (p a b r : Nat) : Nat := if p = 2 then 16 - a else if p = 3 then 12 else if p = 4 then 11 else if p = 5 then 11 else if p = 6 then 10 else if p = 7 then 10 - b else if p = 8 then 7 - r else 0
/-- How much is still to come, at most. -/
def mu' (g p n i w a b r : Nat) : Nat := if p = 0 then 0 else if p = 1 then 300 * (g - n) else 300 * (g - n - 1) + 17 * Ct.emp (w : Int) 8 + 17 * (8 - i) + pw p a b r
def mu (c : Sk.C) (s : Sk.S) : Nat := mu' (Tb.grp c.lg) s.p s.n s.i s.w s.cs.length s.sh.p s.rs.length
end Go.Proofs.YtknefjigdlbacaaGreatDoor
namespace Go.Proofs.YtknefjigdlbacaaGreatDoor.Sk
open Go.Proofs.YtknefjigdlbacaaGreatDoor Ln
theorem emp_sub {a b : Int} : ∀ (k : Nat), (∀ j : Nat, j < k → byt a j ≠ 0 → byt b j ≠ 0) → Ct.emp b k ≤ Ct.emp a k
  | 0, _ => Nat.le_refl _
  | k + 1, h => by
    have ih := emp_sub k (fun j hj => h j (by omega))
    by_cases e : byt b k = 0
    · have e2 : byt a k = 0 := by
        apply Decidable.byContradiction
        intro q
        exact h k (by omega) q e
      rw [Ct.emp_hit e, Ct.emp_hit e2]; omega
    · rw [Ct.emp_miss e]
      by_cases e2 : byt a k = 0
      · rw [Ct.emp_hit e2]; omega
      · rw [Ct.emp_miss e2]; omega
theorem emp_lt {a b : Int} {i : Nat} (ha : byt a i = 0) (hb : byt b i ≠ 0) : ∀ (k : Nat), i < k → (∀ j : Nat, j < k → byt a j ≠ 0 → byt b j ≠ 0) → Ct.emp b k < Ct.emp a k
  | 0, hi, _ => by omega
  | k + 1, hi, h => by
    by_cases e : i = k
    · subst e
      have := emp_sub i (fun j hj => h j (by omega))
      rw [Ct.emp_miss hb, Ct.emp_hit ha]; omega
    · have ih := emp_lt ha hb k (by omega) (fun j hj => h j (by omega))
      by_cases e : byt b k = 0
      · have e2 : byt a k = 0 := by
          apply Decidable.byContradiction
          intro q
          exact h k (by omega) q e
        rw [Ct.emp_hit e, Ct.emp_hit e2]; omega
      · rw [Ct.emp_miss e]
        by_cases e2 : byt a k = 0
        · rw [Ct.emp_hit e2]; omega
        · rw [Ct.emp_miss e2]; omega
theorem byt_ext {a b : Nat} (ha : a < 18446744073709551616) (hb : b < 18446744073709551616) (h : ∀ j : Nat, j < 8 → byt a j = byt b j) : a = b := by
  have h0 := h 0 (by omega)
  have h1 := h 1 (by omega)
  have h2 := h 2 (by omega)
  have h3 := h 3 (by omega)
  have h4 := h 4 (by omega)
  have h5 := h 5 (by omega)
  have h6 := h 6 (by omega)
  have h7 := h 7 (by omega)
  rw [byt_in (by omega) (by omega), byt_in (by omega) (by omega)] at h0 h1 h2 h3 h4 h5 h6 h7
  simp at h0 h1 h2 h3 h4 h5 h6 h7
  omega
theorem emp_new {a b : Nat} (ha : a < 18446744073709551616) (hb : b < 18446744073709551616) (hs : Sub a b) (hne : b ≠ a) : Ct.emp (b : Int) 8 < Ct.emp (a : Int) 8 := by
  apply Decidable.byContradiction
  intro hn
  refine hne (byt_ext hb ha fun j hj => ?_)
  by_cases e : byt (a : Int) j = 0
  · by_cases e2 : byt (b : Int) j = 0
    · rw [e, e2]
    · exact absurd (emp_lt e e2 8 hj (fun k hk h0 => by rw [hs k hk h0]; exact h0)) hn
  · exact hs j hj e
section
variable {B : Nat → List Nat} {t t' : Tv} {c : C} {s : S}
theorem mu_toG {n : Nat} : mu c (toG c s n) ≤ 300 * (Tb.grp c.lg - n) := by
  unfold toG
  split
  · unfold mu mu'
    rw [if_neg (by simp), if_pos rfl]
    exact Nat.le_refl _
  · split <;> exact Nat.zero_le _
theorem pw_bd (p a b r : Nat) (h : p ≠ 2) : pw p a b r ≤ 12 := by
  unfold pw
  rw [if_neg h]
  repeat' split
  all_goals omega
theorem mu_goOn (hc : c.lay = 0 ∨ s.chk = false) (hi : s.i ≤ 8) : mu c (goOn c s) ≤ 300 * (Tb.grp c.lg - s.n - 1) + 17 * Ct.emp (s.w : Int) 8 + 17 * (8 - s.i) + 12 := by
  obtain ⟨j, hj⟩ : ∃ j, j = (Ct.nxp s.w s.i (cl c)).toNat := ⟨_, rfl⟩
  have hN := nxp_nat s.w s.i (cl c)
  rw [← hj] at hN
  have hij : s.i ≤ j := by
    obtain ⟨-, f0, f1, f2⟩ := Ct.nxp_first s.w s.i (cl c)
    by_cases h : Ct.nxp s.w s.i (cl c) < 8
    · have h3 := (f2 h).1
      rw [← hj] at h3
      omega
    · omega
  have key : ∀ x : S, x.p ≠ 1 → x.p ≠ 2 → x.n = s.n → x.i = j → x.w = s.w → mu c x ≤ 300 * (Tb.grp c.lg - s.n - 1) + 17 * Ct.emp (s.w : Int) 8 + 17 * (8 - s.i) + 12 := fun x h1 h2 hn hx hw => by
    unfold mu mu'
    have := pw_bd x.p x.cs.length x.sh.p x.rs.length h2
    by_cases h0 : x.p = 0
    · rw [if_pos h0]; omega
    · rw [if_neg h0, if_neg h1, hn, hx, hw]; omega
  unfold goOn
  rw [← hj]
  split
  · unfold Sk.free
    split
    · exact Nat.zero_le _
    · rename_i hl
      rw [if_neg (by rcases hc with h | h
                     · exact absurd h hl
                     · show ¬ s.chk = true; rw [h]; simp)]
      exact key _ (by simp) (by simp) rfl rfl rfl
  · split
    · exact Nat.zero_le _
    · split
      · exact key _ (by simp) (by simp) rfl rfl rfl
      · have := mu_toG (c := c) (s := { s with i := j }) (n := s.n + 1)
        have e : Tb.grp c.lg - (s.n + 1) = Tb.grp c.lg - s.n - 1 := by omega
        rw [e] at this
        omega
theorem mu_of {g : Nat} (hg : g = Tb.grp c.lg) (h0 : s.p ≠ 0) (h1 : s.p ≠ 1) : mu c s = 300 * (g - s.n - 1) + 17 * Ct.emp (s.w : Int) 8 + 17 * (8 - s.i) + pw s.p s.cs.length s.sh.p s.rs.length := by
  subst hg
  unfold mu mu'
  rw [if_neg h0, if_neg h1]
theorem mu_fin (s : S) (f : F) : mu c (fin s f) = 0 := rfl
/-- Each act makes it less. -/
theorem mu_step (ho : Ok c) (hw : Wf c s) (h : Li B t c s) (hp : s.p ≠ 0) (hsi : Si B t) (hwt : ∀ g, t.w g < 18446744073709551616) (any : Nat) : mu c (step c s (ansT B t c s any)) < mu c s := by
  obtain ⟨c0, c1⟩ := cl_bd c ho.h
  have hn := hw.nl hp
  have hp8 := hw.p
  have hp2 := h.p2
  obtain ⟨g, hg⟩ : ∃ g, g = Tb.grp c.lg := ⟨_, rfl⟩
  have hG : ∀ (x : S) (k : Nat), x.p ≠ 1 → x.p ≠ 2 → x.n = s.n → x.i = s.i → x.w = s.w → pw x.p x.cs.length x.sh.p x.rs.length ≤ k → mu c x ≤ 300 * (g - s.n - 1) + 17 * Ct.emp (s.w : Int) 8 + 17 * (8 - s.i) + k := fun x k h1 h2 hn hx hw hk => by
    by_cases h0 : x.p = 0
    · unfold mu mu'; rw [if_pos h0]; exact Nat.zero_le _
    · rw [mu_of hg h0 h1, hn, hx, hw]; omega
  rcases (show s.p = 1 ∨ s.p = 3 ∨ s.p = 4 ∨ (s.p = 5 ∨ s.p = 6) ∨ s.p = 7 ∨ s.p = 8 by omega) with e | e | e | e | e | e
  · unfold step
    rw [if_pos e]
    have a := mu_goOn (c := c) (s := { s with w := ansT B t c s any, i := 0 }) h.chk (by simp)
    have b := Ct.emp_le (ansT B t c s any : Int) 8
    have d : mu c s = 300 * (Tb.grp c.lg - s.n) := by unfold mu mu'; rw [if_neg hp, if_pos e]
    simp only at a
    omega
  · have h8 := hw.i8 (by omega) (by omega)
    have ev : ansT B t c s any = t.w (gn c s.n) := by unfold ansT; rw [if_pos (by omega)]
    rw [ev]
    have hm := mu_of (c := c) (s := s) hg hp (by omega)
    rw [e, show pw 3 s.cs.length s.sh.p s.rs.length = 12 from rfl] at hm
    unfold step
    rw [if_neg (by omega), if_neg (by omega), if_pos e]
    obtain ⟨hb, hly⟩ := h.free e
    split
    · rcases clmd_byt ho h8 hb with ⟨hcb, hce⟩ | hx
      · have hlt : Ct.emp (clmd c s : Int) 8 < Ct.emp (s.w : Int) 8 := emp_lt hb (by rw [hcb]; omega) 8 h8 (fun j hj h0 => by rw [hce, Ct.clm_keeps hj h0]; exact h0)
        have := mu_of (c := c) (s := { s with w := clmd c s, p := 4 }) hg (by simp) (by simp)
        rw [this, hm]
        simp only
        rw [show pw 4 s.cs.length s.sh.p s.rs.length = 11 from rfl]
        omega
      · have := hw.w; omega
    · rename_i hq
      have hlt := emp_new hw.w (hwt _) (h.sub (by omega)) hq
      have a := mu_goOn (c := c) (s := { s with w := t.w (gn c s.n) }) h.chk hw.i
      simp only at a
      rw [← hg] at a
      omega
  · have hm := mu_of (c := c) (s := s) hg hp (by omega)
    rw [e, show pw 4 s.cs.length s.sh.p s.rs.length = 11 from rfl] at hm
    unfold step
    rw [if_neg (by omega), if_neg (by omega), if_neg (by omega), if_pos e]
    have := hG { s with p := 6 } 10 (by simp) (by simp) rfl rfl rfl (Nat.le_refl _)
    omega
  · have h8 := hw.i8 (by omega) (by omega)
    have ev : ansT B t c s any = t.l (gn c s.n) s.i := by unfold ansT; rw [if_neg (by omega), if_pos e]
    rw [ev]
    have hm := mu_of (c := c) (s := s) hg hp (by omega)
    have h10 : 10 ≤ pw s.p s.cs.length s.sh.p s.rs.length ∧ (s.p = 5 → pw s.p s.cs.length s.sh.p s.rs.length = 11) := by
      rcases e with e | e <;> rw [e]
      · exact ⟨by show 10 ≤ 11; omega, fun _ => rfl⟩
      · exact ⟨by show 10 ≤ 10; omega, fun e => by omega⟩
    unfold step
    rw [if_neg (by omega), if_neg (by omega), if_neg (by omega), if_neg (by omega), if_pos e]
    by_cases h0 : t.l (gn c s.n) s.i = 0
    · unfold told
      rw [if_pos h0]
      split
      · unfold Sk.aft
        rw [if_neg (by simp)]
        show mu c (fin s _) < _
        rw [mu_fin]; omega
      · rename_i h6
        split
        · unfold Sk.aft
          rw [if_neg (by simp)]
          show mu c (fin s _) < _
          rw [mu_fin]; omega
        · unfold Sk.aft
          rw [if_neg (by simp)]
          have a := hG { s with p := 6 } 10 (by simp) (by simp) rfl rfl rfl (Nat.le_refl _)
          have b := h10.2 (by omega)
          show mu c { s with p := 6 } < _
          omega
    · obtain ⟨q1, q2, q3⟩ := hsi _ _ h8 h0
      unfold told
      rw [if_neg h0]
      unfold exam
      rw [Sh.new_yes (fr_slot q1 q2).1, opn_new (by simp)]
      unfold Sk.aft
      rw [if_neg (by simp)]
      have a := hG { s with p := 7, sh := ⟨1, t.l (gn c s.n) s.i⟩ } 9 (by simp) (by simp) rfl rfl rfl (Nat.le_refl _)
      show mu c { s with p := 7, sh := ⟨1, t.l (gn c s.n) s.i⟩ } < _
      omega
  · have h8 := hw.i8 (by omega) (by omega)
    obtain ⟨hr, hr0⟩ := h.sl e
    have hm := mu_of (c := c) (s := s) hg hp (by omega)
    rw [e, show pw 7 s.cs.length s.sh.p s.rs.length = 10 - s.sh.p from rfl] at hm
    unfold step
    rw [if_neg (by omega), if_neg (by omega), if_neg (by omega), if_neg (by omega), if_neg (by omega), if_pos e]
    obtain ⟨q1, q2, q3⟩ := hsi _ _ h8 (by rw [← hr]; exact hr0)
    rcases (show s.sh.p = 1 ∨ s.sh.p = 2 by have := hw.shi e; omega) with e1 | e1
    · have es : Sh.step s.sh (ansT B t c s any) = ⟨2, s.sh.r⟩ := by unfold Sh.step; rw [if_pos e1]
      rw [es, opn_new (by simp)]
      unfold Sk.aft
      rw [if_neg (by simp)]
      have a := hG { s with sh := ⟨2, s.sh.r⟩ } 8 (by simp only; omega) (by simp only; omega) rfl rfl rfl (by simp only; rw [e]; exact Nat.le_refl _)
      show mu c { s with sh := ⟨2, s.sh.r⟩ } < _
      omega
    · have ev : ansT B t c s any = s.sh.r := by unfold ansT; rw [if_neg (by omega), if_neg (by omega), if_pos e, if_neg (by omega), hr]
      have es : Sh.step s.sh (ansT B t c s any) = ⟨3, s.sh.r⟩ := by
        rw [ev]
        unfold Sh.step
        rw [if_neg (by omega), if_pos e1, Sh.oth_same rfl, Bool.and_false]
        rfl
      rw [es]
      unfold opn
      rw [if_pos rfl, if_pos (fr_slot (by rw [hr]; exact q1) (by rw [hr]; exact q2)).2]
      unfold Sk.aft
      rw [if_neg (by simp)]
      have a := hG { s with sh := ⟨3, s.sh.r⟩, x := s.sh.r, p := 8, rs := [] } 7 (by simp) (by simp) rfl rfl rfl (Nat.le_refl _)
      show mu c { s with sh := ⟨3, s.sh.r⟩, x := s.sh.r, p := 8, rs := [] } < _
      omega
  · have h8 := hw.i8 (by omega) (by omega)
    obtain ⟨hlt, -⟩ := hw.rd e
    have h6 := (Rd.sz_bd s.rs).2
    have hm := mu_of (c := c) (s := s) hg hp (by omega)
    rw [e, show pw 8 s.cs.length s.sh.p s.rs.length = 7 - s.rs.length from rfl] at hm
    unfold step
    rw [if_neg (by omega), if_neg (by omega), if_neg (by omega), if_neg (by omega), if_neg (by omega), if_neg (by omega), if_pos e]
    unfold cmp
    split
    · unfold Sk.aft
      rw [if_neg (by simp)]
      have a := hG { s with rs := s.rs ++ [ansT B t c s any] } (7 - (s.rs.length + 1)) (by simp only; omega) (by simp only; omega) rfl rfl rfl (by simp only [List.length_append, List.length_singleton]; rw [e]; exact Nat.le_refl _)
      show mu c { s with rs := s.rs ++ [ansT B t c s any] } < _
      omega
    · split
      · split
        · unfold Sk.aft
          rw [if_neg (by simp)]
          show mu c (fin _ _) < _
          rw [mu_fin]; omega
        · unfold Sk.aft
          rw [if_neg (by simp)]
          show mu c (fin _ _) < _
          rw [mu_fin]; omega
      · unfold Sk.aft
        rw [if_pos rfl]
        have a := mu_goOn (c := c) (s := { s with rs := s.rs ++ [ansT B t c s any], i := s.i + 1 }) h.chk (by simp only; omega)
        simp only at a
        rw [← hg] at a
        show mu c (goOn c { s with rs := s.rs ++ [ansT B t c s any], i := s.i + 1 }) < _
        omega
theorem mu_le (hw : Wf c s) (hp2 : s.p ≠ 2) : mu c s ≤ 300 * Tb.grp c.lg := by
  unfold mu mu'
  split
  · exact Nat.zero_le _
  · rename_i h0
    have hn := hw.nl h0
    have a := Ct.emp_le (s.w : Int) 8
    have b := pw_bd s.p s.cs.length s.sh.p s.rs.length hp2
    split
    · exact Nat.mul_le_mul_left _ (Nat.sub_le _ _)
    · omega
end
end Go.Proofs.YtknefjigdlbacaaGreatDoor.Sk
set_option linter.unusedVariables false
set_option linter.unusedSimpArgs false
namespace Go.Proofs.YtknefjigdlbacaaGreatDoor.Sk
open Go.Proofs.YtknefjigdlbacaaGreatDoor
/-- Behind these answers, from a state on. -/
def runs (c : C) (s : S) (l : List Nat) : S := l.foldl (step c) s
theorem runs_nil (c : C) (s : S) : runs c s [] = s := rfl
theorem runs_cons (c : C) (s : S) (g : Nat) (l : List Nat) : runs c s (g :: l) = runs c (step c s g) l := rfl
theorem runs_append (c : C) (s : S) (a b : List Nat) : runs c s (a ++ b) = runs c (runs c s a) b := List.foldl_append
theorem runs_end {c : C} {s : S} (h : s.p = 0) (l : List Nat) : runs c s l = s := by
  induction l with
  | nil => rfl
  | cons g l ih =>
    rw [runs_cons]
    have : step c s g = s := by unfold step; repeat rw [if_neg (by omega)]
    rw [this, ih]
variable {c : C} {chk : Bool} {gs : List Nat}
theorem run_take_add (k m : Nat) : run c chk (gs.take (k + m)) = runs c (run c chk (gs.take k)) ((gs.drop k).take m) := by
  show (gs.take (k + m)).foldl _ _ = ((gs.drop k).take m).foldl _ ((gs.take k).foldl _ _)
  rw [← List.foldl_append, List.take_add]
theorem run_rest (k : Nat) : run c chk gs = runs c (run c chk (gs.take k)) (gs.drop k) := by
  show gs.foldl _ _ = (gs.drop k).foldl _ ((gs.take k).foldl _ _)
  rw [← List.foldl_append, List.take_append_drop]
theorem run_one {k : Nat} (h : k < gs.length) : run c chk (gs.take (k + 1)) = step c (run c chk (gs.take k)) (gs.getD k 0) := by
  unfold run
  rw [List.take_add_one, List.getD_eq_getElem?_getD, List.getElem?_eq_getElem h, Option.toList_some, List.foldl_append]
  rfl
theorem run_full {k : Nat} (h : k = gs.length) : run c chk (gs.take k) = run c chk gs := by rw [h, List.take_length]
theorem run_ended {k : Nat} (h : (run c chk (gs.take k)).p = 0) : run c chk gs = run c chk (gs.take k) := by rw [run_rest k, runs_end h]
/-! ### the crowd -/
theorem ask_few {s : S} (hp : s.p = 2) : ∀ (l : List Nat), s.cs.length + l.length < 4 → runs c s l = { s with cs := s.cs ++ l }
  | [], _ => by rw [runs_nil, List.append_nil]
  | g :: l, h => by
    simp only [List.length_cons] at h
    have e : step c s g = { s with cs := s.cs ++ [g] } := by
      unfold step
      rw [if_neg (by omega), if_pos hp, Cw.step_yes (by omega)]
      unfold hear
      rw [if_pos (by simp only [Cw.more, decide_eq_true_eq, List.length_append, List.length_singleton]; omega)]
    rw [runs_cons, e, ask_few (s := { s with cs := s.cs ++ [g] }) hp l (by simp only [List.length_append, List.length_singleton]; omega)]
    simp
theorem ask_all {s : S} (hp : s.p = 2) (hc : s.cs = []) {l : List Nat} (h : 4 ≤ l.length) : runs c s (l.take 4) = hear c { s with cs := l.take 4 } := by
  have e : l.take 4 = l.take 3 ++ [l.getD 3 0] := by
    rw [show 4 = 3 + 1 from rfl, List.take_add_one, List.getD_eq_getElem?_getD, List.getElem?_eq_getElem (by omega)]
    rfl
  rw [e, runs_append, ask_few hp (l.take 3) (by rw [hc, List.length_take]; simp; omega), runs_cons, runs_nil]
  unfold step
  rw [if_neg (by simp only; omega), if_pos hp]
  simp only [hc, List.nil_append]
  rw [Cw.step_yes (by rw [List.length_take]; omega)]
theorem hear_all {s : S} {l : List Nat} (h : 4 ≤ l.length) : hear c { s with cs := l.take 4 } = if Cw.told (7 * Tb.grp c.lg) l then fin { s with cs := l.take 4 } ⟨6, 0, 0, []⟩ else { s with cs := l.take 4, p := 3 } := by
  unfold hear
  rw [if_neg (by simp only [Cw.more, decide_eq_true_eq, List.length_take]; omega)]
  have e : Cw.told (7 * Tb.grp c.lg) (l.take 4) = Cw.told (7 * Tb.grp c.lg) l := by
    unfold Cw.told
    rw [show l.take 4 = Cw.run l from rfl, Cw.sum_run]
  simp only [e]
/-! ### the shield -/
theorem opn_more {s : S} (h : Sh.more s.sh = true) : opn s = (s, false) := by
  unfold opn
  rw [if_neg (by intro e; simp [Sh.more, e] at h)]
theorem sh_go {s : S} (hp : s.p = 7) : ∀ (l : List Nat), (∀ j, j ≤ l.length → Sh.more ((l.take j).foldl Sh.step s.sh) = true) → runs c s l = { s with sh := l.foldl Sh.step s.sh }
  | [], _ => rfl
  | g :: l, h => by
    have h1 : Sh.more (Sh.step s.sh g) = true := h 1 (by simp)
    have e : step c s g = { s with sh := Sh.step s.sh g } := by
      unfold step
      repeat rw [if_neg (by omega)]
      rw [if_pos hp, opn_more h1]
      rfl
    rw [runs_cons, e, sh_go (s := { s with sh := Sh.step s.sh g }) hp l (fun j hj => by
      have := h (j + 1) (by simp; omega)
      simpa using this)]
    rfl
/-- The shield ends at its m-th answer: behind exam, as well as on the way. -/
theorem sh_end {s : S} {x u m : Nat} {l : List Nat} (hm : m ≤ l.length) (he : Sh.run x (l.take m) = ⟨3, u⟩) (hb : ∀ j, j < m → Sh.more (Sh.run x (l.take j)) = true) : runs c (aft c (exam s x)) (l.take m) = aft c (opn { s with p := 7, sh := ⟨3, u⟩ }) := by
  cases m with
  | zero =>
    have he : Sh.new x = ⟨3, u⟩ := he
    rw [List.take_zero, runs_nil]
    unfold exam
    rw [he]
  | succ m =>
    have h0 : Sh.more (Sh.new x) = true := hb 0 (by omega)
    have e0 : aft c (exam s x) = { s with p := 7, sh := Sh.new x } := by
      unfold exam
      rw [opn_more (s := { s with p := 7, sh := Sh.new x }) h0]
      rfl
    have hl : m < l.length := by omega
    rw [e0, List.take_add_one, List.getElem?_eq_getElem hl, Option.toList_some, runs_append,
      sh_go (s := { s with p := 7, sh := Sh.new x }) rfl (l.take m) (fun j hj => by
        rw [List.length_take] at hj
        have := hb j (by omega)
        rw [List.take_take, Nat.min_eq_left (by omega)]
        exact this), runs_cons, runs_nil]
    have e1 : Sh.step ((l.take m).foldl Sh.step (Sh.new x)) l[m] = ⟨3, u⟩ := by
      rw [← he]
      unfold Sh.run
      rw [List.take_add_one, List.getElem?_eq_getElem hl, Option.toList_some, List.foldl_append]
      rfl
    unfold step
    repeat rw [if_neg (by simp only; omega)]
    rw [if_pos rfl]
    simp only [e1]
theorem sh_over {s : S} {x : Nat} {l : List Nat} (hb : ∀ j, j ≤ l.length → Sh.more (Sh.run x (l.take j)) = true) : runs c (aft c (exam s x)) l = { s with p := 7, sh := Sh.run x l } := by
  have h0 : Sh.more (Sh.new x) = true := hb 0 (by omega)
  have e0 : aft c (exam s x) = { s with p := 7, sh := Sh.new x } := by
    unfold exam
    rw [opn_more (s := { s with p := 7, sh := Sh.new x }) h0]
    rfl
  rw [e0, sh_go (s := { s with p := 7, sh := Sh.new x }) rfl l hb]
  rfl
/-! ### the reader -/
theorem sz_prefix {a b : List Nat} (h : a ≠ []) : Rd.sz (a ++ b) = Rd.sz a := by
  cases a with
  | nil => exact absurd rfl h
  | cons x r => rfl
theorem cmp_few {s : S} (h : s.rs.length < Rd.sz s.rs) : cmp c s = (s, false) := by unfold cmp; rw [if_pos h]
theorem rd_few {s : S} (hp : s.p = 8) : ∀ (l : List Nat), s.rs.length + l.length < Rd.sz (s.rs ++ l) → runs c s l = { s with rs := s.rs ++ l }
  | [], _ => by rw [runs_nil, List.append_nil]
  | g :: l, h => by
    simp only [List.length_cons] at h
    have e2 : s.rs ++ g :: l = (s.rs ++ [g]) ++ l := by simp
    rw [e2, sz_prefix (by simp)] at h
    have e : step c s g = { s with rs := s.rs ++ [g] } := by
      unfold step
      repeat rw [if_neg (by omega)]
      rw [if_pos hp, cmp_few (s := { s with rs := s.rs ++ [g] }) (by simp only [List.length_append, List.length_singleton]; omega)]
      rfl
    rw [runs_cons, e, rd_few (s := { s with rs := s.rs ++ [g] }) hp l (by rw [sz_prefix (by simp)]; simp only [List.length_append, List.length_singleton]; omega)]
    simp
theorem sz_take {l : List Nat} {k : Nat} (h : 0 < k) (hl : 0 < l.length) : Rd.sz (l.take k) = Rd.sz l := by
  have : l = l.take k ++ l.drop k := (List.take_append_drop k l).symm
  conv => rhs; rw [this]
  rw [sz_prefix]
  intro e
  have := congrArg List.length e
  rw [List.length_take, List.length_nil] at this
  omega
theorem rd_end {s : S} (hp : s.p = 8) (hr : s.rs = []) {l : List Nat} (h : Rd.sz l ≤ l.length) : runs c s (l.take (Rd.sz l)) = aft c (cmp c { s with rs := l.take (Rd.sz l) }) := by
  have hb := Rd.sz_bd l
  obtain ⟨m, hm⟩ : ∃ m, Rd.sz l = m + 1 := ⟨Rd.sz l - 1, by omega⟩
  have hl : m < l.length := by omega
  have e : l.take (m + 1) = l.take m ++ [l[m]] := by rw [List.take_add_one, List.getElem?_eq_getElem hl, Option.toList_some]
  have h1 : runs c s (l.take m) = { s with rs := l.take m } := by
    rw [rd_few hp (l.take m)]
    · rw [hr, List.nil_append]
    · rw [hr, List.nil_append, List.length_take]
      by_cases h0 : m = 0
      · have := Rd.sz_bd (l.take m); simp; omega
      · rw [sz_take (by omega) (by omega)]; simp; omega
  rw [hm, e, runs_append, h1, runs_cons, runs_nil]
  unfold step
  repeat rw [if_neg (by simp only; omega)]
  rw [if_pos hp]
theorem key_take {l : List Nat} (h : 0 < l.length) : Rd.key (l.take (Rd.sz l)) = Rd.key l ∧ Rd.val (l.take (Rd.sz l)) = Rd.val l := by
  have hb := Rd.sz_bd l
  have e : Rd.sz (l.take (Rd.sz l)) = Rd.sz l := sz_take (by omega) h
  have e2 : Rd.rd (l.take (Rd.sz l)) (Rd.sz l) = Rd.rd l (Rd.sz l) := by
    unfold Rd.rd Rd.nr
    rw [e, List.take_take, Nat.min_self, Nat.min_self]
  unfold Rd.key Rd.val
  rw [e, e2]
  exact ⟨rfl, rfl⟩
/-- What was read in full is compared. -/
theorem cmp_full {s : S} {l : List Nat} (h : Rd.sz l ≤ l.length) : cmp c { s with rs := l.take (Rd.sz l) } = if Rd.key l = c.key then (if Sh.fr s.x then (fin { s with rs := l.take (Rd.sz l) } ⟨2, scell c s, s.x, Rd.val l⟩, false) else (fin { s with rs := l.take (Rd.sz l) } ⟨4, 0, 0, []⟩, false)) else ({ s with rs := l.take (Rd.sz l) }, true) := by
  have hb := Rd.sz_bd l
  obtain ⟨k1, k2⟩ := key_take (l := l) (by omega)
  unfold cmp
  have e : Rd.sz (l.take (Rd.sz l)) = Rd.sz l := sz_take (by omega) (by omega)
  rw [if_neg (by simp only [e, List.length_take]; omega)]
  simp only [k1, k2]
  rfl
/-- Two states that go on alike from a place on: the same place and word, the same group. -/
structure Alike (s t : S) : Prop where
  w : s.w = t.w
  i : s.i = t.i
  n : s.n = t.n
  g : s.g = t.g
  chk : s.chk = t.chk
end Go.Proofs.YtknefjigdlbacaaGreatDoor.Sk
