/-
  Several texts in one: What holds of who seeks, whatever others do to the table: a place that was passed is another key's for good. Plain mathematics; An act of one seek on a table that keeps: what holds of it holds still, and the table has only grown. Plain mathematics. By an AI agent.
-/
import Derived.Test.YtknefjigdlbacaaGreatDoorSkGAE
set_option linter.unusedVariables false
set_option linter.unusedSimpArgs false
namespace Go.Proofs.YtknefjigdlbacaaGreatDoor.Sk
open Go.Proofs.YtknefjigdlbacaaGreatDoor Ln
/-- A table as it is seen: its control words, and its slots. -/
structure Tv where
  w : Nat → Nat
  l : Nat → Nat → Nat
/-- Is the box of a slot's word this key's? B: the words of each box. -/
def Own (B : Nat → List Nat) (c : C) (x : Nat) : Prop := Rd.key (B (x / 8)) = c.key
/-- A place that may be passed. -/
def Pl (B : Nat → List Nat) (t : Tv) (c : C) (g j : Nat) : Prop := byt (t.w g) j ≠ 0 ∧ (byt (t.w g) j = cl c → t.l g j ≠ 0 ∧ ¬ Own B c (t.l g j))
/-- The n-th group of a key. -/
def gn (c : C) (n : Nat) : Nat := Rt.gat (c.h / 128) (Tb.grp c.lg) n
/-- All places up to here may be passed. -/
def Past (B : Nat → List Nat) (t : Tv) (c : C) (n i : Nat) : Prop := (∀ m, m < n → ∀ j, j < 8 → Pl B t c (gn c m) j) ∧ ∀ j, j < i → Pl B t c (gn c n) j
/-- What was seen of a word still stands. -/
def Sub (a b : Nat) : Prop := ∀ j : Nat, j < 8 → byt a j ≠ 0 → byt b j = byt a j
/-- Bytes are nothing or claims. -/
def Ci (t : Tv) : Prop := ∀ g j : Nat, j < 8 → byt (t.w g) j = 0 ∨ 128 ≤ byt (t.w g) j
/-- Slots are nothing, or fresh boxes. -/
def Si (B : Nat → List Nat) (t : Tv) : Prop := ∀ g j : Nat, j < 8 → t.l g j ≠ 0 → t.l g j % 8 = 1 ∧ 8 ≤ t.l g j ∧ Rd.sz (B (t.l g j / 8)) = (B (t.l g j / 8)).length
/-- Bytes and slots that were set stay. -/
structure Grow (t t' : Tv) : Prop where
  w : ∀ g j : Nat, j < 8 → byt (t.w g) j ≠ 0 → byt (t'.w g) j = byt (t.w g) j
  l : ∀ g j : Nat, j < 8 → t.l g j ≠ 0 → t'.l g j = t.l g j
theorem Grow.refl (t : Tv) : Grow t t := ⟨fun _ _ _ _ => rfl, fun _ _ _ _ => rfl⟩
/-- How a seek has ended. -/
def Fin (B : Nat → List Nat) (t : Tv) (c : C) (s : S) : Prop :=
  (s.f = ⟨1, 0, 0, []⟩ ∧ c.lay = 0 ∧ (s.n = Tb.grp c.lg ∧ Past B t c s.n 0 ∨ s.n < Tb.grp c.lg ∧ s.i < 8 ∧ Past B t c s.n s.i ∧ byt s.w s.i = 0)) ∨
  (∃ x, x ≠ 0 ∧ s.n < Tb.grp c.lg ∧ s.i < 8 ∧ Past B t c s.n s.i ∧ byt (t.w (gn c s.n)) s.i = cl c ∧ t.l (gn c s.n) s.i = x ∧ Own B c x ∧ s.f = ⟨2, Tb.sc (Tb.grp c.lg) (gn c s.n : Nat) s.i, x, Rd.val (B (x / 8))⟩) ∨
  (c.lay ≠ 0 ∧ s.n < Tb.grp c.lg ∧ s.i < 8 ∧ Past B t c s.n s.i ∧ byt (t.w (gn c s.n)) s.i = cl c ∧ t.l (gn c s.n) s.i = laidw c ∧ s.f = ⟨3, Tb.sc (Tb.grp c.lg) (gn c s.n : Nat) s.i, laidw c, []⟩) ∨
  (s.f = ⟨5, 0, 0, []⟩ ∧ c.lay ≠ 0 ∧ Past B t c (Tb.grp c.lg) 0)
/-- What holds of one seek. -/
structure Li (B : Nat → List Nat) (t : Tv) (c : C) (s : S) : Prop where
  chk : c.lay = 0 ∨ s.chk = false
  p2 : s.p ≠ 2
  g : s.p ≠ 0 → s.g = (gn c s.n : Nat)
  past : s.p ≠ 0 → Past B t c s.n (if s.p = 1 then 0 else s.i)
  sub : 2 ≤ s.p → Sub s.w (t.w (gn c s.n))
  free : s.p = 3 → byt s.w s.i = 0 ∧ c.lay ≠ 0
  own : 4 ≤ s.p → byt (t.w (gn c s.n)) s.i = cl c
  lay : s.p = 4 ∨ s.p = 6 → c.lay ≠ 0
  sl : s.p = 7 → s.sh.r = t.l (gn c s.n) s.i ∧ s.sh.r ≠ 0
  rd : s.p = 8 → s.x = t.l (gn c s.n) s.i ∧ s.x ≠ 0 ∧ s.rs = (B (s.x / 8)).take s.rs.length
  fin : s.p = 0 → Fin B t c s
section
variable {B : Nat → List Nat} {t t' : Tv} {c : C} {s : S}
theorem Pl.grow (hg : Grow t t') {g j : Nat} (hj : j < 8) (h : Pl B t c g j) : Pl B t' c g j := by
  obtain ⟨h1, h2⟩ := h
  have e := hg.w g j hj h1
  refine ⟨by rw [e]; exact h1, fun h => ?_⟩
  obtain ⟨a, b⟩ := h2 (e ▸ h)
  rw [hg.l g j hj a]
  exact ⟨a, b⟩
theorem Past.grow (hg : Grow t t') {n i : Nat} (hi : i ≤ 8) (h : Past B t c n i) : Past B t' c n i := ⟨fun m hm j hj => (h.1 m hm j hj).grow hg hj, fun j hj => (h.2 j hj).grow hg (by omega)⟩
theorem Past.zero {n : Nat} (h : Past B t c n 8) : Past B t c (n + 1) 0 := ⟨fun m hm j hj => by
  by_cases e : m = n
  · subst e; exact h.2 j hj
  · exact h.1 m (by omega) j hj, fun j hj => by omega⟩
theorem Past.start (B : Nat → List Nat) (t : Tv) (c : C) : Past B t c 0 0 := ⟨fun m hm => by omega, fun j hj => by omega⟩
theorem Sub.grow (hg : Grow t t') {a g : Nat} (h : Sub a (t.w g)) : Sub a (t'.w g) := fun j hj h0 => by
  have := h j hj h0
  rw [hg.w g j hj (by rw [this]; exact h0), this]
theorem gn_g (hn : s.n < Tb.grp c.lg) : Rt.gp c.h c.lg s.n = ((gn c s.n : Nat) : Int) := Rt.gp_in (by rw [grp_eq]; exact hn)
theorem li_toG {n : Nat} (hn : n ≤ Tb.grp c.lg) (hc : c.lay = 0 ∨ s.chk = false) (hp : Past B t c n 0) : Li B t c (toG c s n) := by
  unfold toG
  split
  · rename_i h0
    have hn2 : n < Tb.grp c.lg := by
      apply Decidable.byContradiction
      intro h2
      rw [Rt.gp_out (.inr (by rw [grp_eq]; omega))] at h0
      omega
    have e : Rt.gp c.h c.lg n = ((gn c n : Nat) : Int) := Rt.gp_in (by rw [grp_eq]; exact hn2)
    constructor <;> (try simp only []) <;> (try omega)
    · exact fun _ => by simpa using hp
  · rename_i h0
    have hn2 : n = Tb.grp c.lg := by
      apply Decidable.byContradiction
      intro h2
      rw [Rt.gp_in (by rw [grp_eq]; omega)] at h0
      omega
    split <;> rename_i hl
    · constructor <;> (try simp only [Sk.fin]) <;> (try omega)
      · exact fun _ => .inl ⟨rfl, hl, .inl ⟨hn2, hp⟩⟩
    · constructor <;> (try simp only [Sk.fin]) <;> (try omega)
      · exact fun _ => .inr (.inr (.inr ⟨rfl, hl, hn2 ▸ hp⟩))
theorem li_goOn (ho : Ok c) (hci : Ci t) (hc : c.lay = 0 ∨ s.chk = false) (hn : s.n < Tb.grp c.lg) (hg : s.g = (gn c s.n : Nat)) (hp : Past B t c s.n s.i) (hs : Sub s.w (t.w (gn c s.n))) : Li B t c (goOn c s) := by
  obtain ⟨c0, c1⟩ := cl_bd c ho.h
  have hbd := Ct.nxp_bd s.w s.i (cl c)
  have hN := nxp_nat s.w s.i (cl c)
  obtain ⟨-, -, f1, f2⟩ := Ct.nxp_first s.w s.i (cl c)
  obtain ⟨j, hj⟩ : ∃ j, j = (Ct.nxp s.w s.i (cl c)).toNat := ⟨_, rfl⟩
  rw [← hj] at hN
  have hpass : Past B t c s.n j := by
    refine ⟨hp.1, fun k hk => ?_⟩
    by_cases hki : k < s.i
    · exact hp.2 k hki
    · have h := f1 k (by omega)
      have hz : Ct.cls s.w k (cl c) = 0 := by
        apply Decidable.byContradiction
        intro q
        exact h ⟨by omega, q⟩
      have b0 : byt s.w k ≠ 0 := fun e => by rw [Ct.cls_free _ e] at hz; omega
      have b1 : ¬ byt s.w k = 1 := fun e => by rw [Ct.cls_shut _ e] at hz; omega
      have b2 : ¬ byt s.w k = cl c := fun e => by rw [Ct.cls_own b0 b1 e c0 c1] at hz; omega
      have e := hs k (by omega) b0
      exact ⟨by rw [e]; exact b0, fun h => absurd (e ▸ h) b2⟩
  have hns : ∀ k : Nat, k < 8 → byt s.w k ≠ 1 := fun k hk e => by
    have h := hs k hk (by rw [e]; omega)
    have := hci (gn c s.n) k hk
    omega
  have hcls : Ct.nxc s.w s.i (cl c) ≠ 0 → j < 8 ∧ Ct.nxc s.w s.i (cl c) = Ct.cls s.w j (cl c) ∧ Ct.cls s.w j (cl c) ≠ 0 := fun h => by
    have h8 := nx_small _ _ _ h
    have h2 := f2 h8
    rw [← hj] at h2
    refine ⟨by omega, ?_, h2.2⟩
    unfold Ct.nxc
    rw [if_pos h8, ← hN]
  have hcb := Ct.cls_bd s.w j (cl c)
  unfold goOn
  rw [← hj]
  split
  · rename_i h1
    obtain ⟨j8, e, -⟩ := hcls (by omega)
    have hb : byt s.w j = 0 := by
      apply Decidable.byContradiction
      intro q
      have : Ct.cls s.w j (cl c) ≠ 1 := by
        unfold Ct.cls
        rw [if_neg q]
        repeat' split
        all_goals omega
      omega
    unfold Sk.free
    split <;> rename_i hl
    · constructor <;> (try simp only [Sk.fin]) <;> (try omega)
      · exact fun _ => .inl ⟨rfl, hl, .inr ⟨hn, j8, hpass, hb⟩⟩
    · rw [if_neg (by rcases hc with h | h
                     · exact absurd h hl
                     · show ¬ s.chk = true; rw [h]; simp)]
      constructor <;> (try simp only []) <;> (try omega)
      · intro _; rw [if_neg (by omega)]; exact hpass
      · exact fun _ => hs
  · split
    · rename_i h1 h2
      obtain ⟨j8, e, -⟩ := hcls (by omega)
      exfalso
      have : Ct.cls s.w j (cl c) ≠ 2 := by
        unfold Ct.cls
        have := hns j j8
        repeat' split
        all_goals omega
      omega
    · split
      · rename_i h1 h2 h3
        obtain ⟨j8, e, -⟩ := hcls (by omega)
        have hb : byt s.w j = cl c := by
          apply Decidable.byContradiction
          intro q
          have : Ct.cls s.w j (cl c) ≠ 3 := by
            unfold Ct.cls
            repeat' split
            all_goals omega
          omega
        constructor <;> (try simp only []) <;> (try omega)
        · intro _; rw [if_neg (by omega)]; exact hpass
        · exact fun _ => hs
        · intro _; rw [hs j j8 (by omega), hb]
      · rename_i h1 h2 h3
        have hj8 : j = 8 := by
          apply Decidable.byContradiction
          intro q
          have h8 : Ct.nxp s.w s.i (cl c) < 8 := by omega
          have h := f2 h8
          rw [← hj] at h
          have e : Ct.nxc s.w s.i (cl c) = Ct.cls s.w j (cl c) := by
            unfold Ct.nxc
            rw [if_pos h8, ← hN]
          have := h.2
          omega
        exact li_toG (s := { s with i := j }) (by omega) hc (Past.zero (hj8 ▸ hpass))
end
end Go.Proofs.YtknefjigdlbacaaGreatDoor.Sk
set_option linter.unusedVariables false
set_option linter.unusedSimpArgs false
namespace Go.Proofs.YtknefjigdlbacaaGreatDoor.Sk
open Go.Proofs.YtknefjigdlbacaaGreatDoor Ln
/-- What is answered: by the table, by a box, or anything (a count, a mark). -/
def ansT (B : Nat → List Nat) (t : Tv) (c : C) (s : S) (any : Nat) : Nat :=
  if s.p = 1 ∨ s.p = 3 then t.w (gn c s.n) else if s.p = 5 ∨ s.p = 6 then t.l (gn c s.n) s.i
  else if s.p = 7 then (if s.sh.p = 1 then any else t.l (gn c s.n) s.i) else if s.p = 8 then (B (s.x / 8)).getD s.rs.length 0 else any
def setW (t : Tv) (g v : Nat) : Tv := { t with w := fun k => if k = g then v else t.w k }
def setL (t : Tv) (g i v : Nat) : Tv := { t with l := fun k j => if k = g ∧ j = i then v else t.l k j }
/-- The table behind. -/
def aftT (t : Tv) (c : C) (s : S) : Tv :=
  if s.p = 3 ∧ t.w (gn c s.n) = s.w then setW t (gn c s.n) (clmd c s) else if s.p = 6 ∧ t.l (gn c s.n) s.i = 0 then setL t (gn c s.n) s.i (laidw c) else t
section
variable {B : Nat → List Nat} {t t' : Tv} {c : C} {s : S}
theorem Fin.grow (ho : Ok c) (hl : c.lay ≠ 0 → laidw c ≠ 0) (hg : Grow t t') (h : Fin B t c s) : Fin B t' c s := by
  obtain ⟨c0, c1⟩ := cl_bd c ho.h
  rcases h with ⟨h1, h2, h3⟩ | ⟨x, hx, h1, h2, h3, h4, h5, h6, h7⟩ | ⟨h0, h1, h2, h3, h4, h5, h6⟩ | ⟨h1, h2, h3⟩
  · refine .inl ⟨h1, h2, ?_⟩
    rcases h3 with ⟨a, b⟩ | ⟨a, b, d, e⟩
    · exact .inl ⟨a, b.grow hg (by omega)⟩
    · exact .inr ⟨a, b, d.grow hg (by omega), e⟩
  · exact .inr (.inl ⟨x, hx, h1, h2, h3.grow hg (by omega), by rw [hg.w _ _ h2 (by rw [h4]; omega)]; exact h4, by rw [hg.l _ _ h2 (by rw [h5]; exact hx)]; exact h5, h6, h7⟩)
  · by_cases hl0 : laidw c = 0
    · exact absurd hl0 (hl h0)
    · exact .inr (.inr (.inl ⟨h0, h1, h2, h3.grow hg (by omega), by rw [hg.w _ _ h2 (by rw [h4]; omega)]; exact h4, by rw [hg.l _ _ h2 (by rw [h5]; exact hl0)]; exact h5, h6⟩))
  · exact .inr (.inr (.inr ⟨h1, h2, h3.grow hg (by omega)⟩))
theorem Li.grow (ho : Ok c) (hl : c.lay ≠ 0 → laidw c ≠ 0) (hw : Wf c s) (hg : Grow t t') (h : Li B t c s) : Li B t' c s := by
  obtain ⟨c0, c1⟩ := cl_bd c ho.h
  refine ⟨h.chk, h.p2, h.g, fun e => (h.past e).grow hg (by have := hw.i; split <;> omega), fun e => (h.sub e).grow hg, h.free, fun e => ?_, h.lay, fun e => ?_, fun e => ?_, fun e => (h.fin e).grow ho hl hg⟩
  · have h8 := hw.i8 (by omega) (by omega)
    have h1 := h.own e
    rw [hg.w _ _ h8 (by rw [h1]; omega)]; exact h1
  · have h8 := hw.i8 (by omega) (by omega)
    obtain ⟨a, b⟩ := h.sl e
    rw [hg.l _ _ h8 (by rw [← a]; exact b)]; exact ⟨a, b⟩
  · have h8 := hw.i8 (by omega) (by omega)
    obtain ⟨a, b, d⟩ := h.rd e
    rw [hg.l _ _ h8 (by rw [← a]; exact b)]; exact ⟨a, b, d⟩
theorem clmd_byt (ho : Ok c) (h8 : s.i < 8) (h : byt s.w s.i = 0) : byt (clmd c s : Nat) s.i = cl c ∧ (clmd c s : Int) = Ct.clm s.w s.i (cl c) ∨ 18446744073709551616 ≤ s.w := by
  obtain ⟨c0, c1⟩ := cl_bd c ho.h
  by_cases hw : s.w < 18446744073709551616
  · left
    have e := clmd_int (c := c) (s := s) hw
    refine ⟨?_, e⟩
    rw [e, Ct.clm_yes h c0 c1, byt_wth h8, if_pos ⟨rfl, by omega, by omega⟩]
  · right; omega
theorem aftT_grow (ho : Ok c) (hw : Wf c s) (h : Li B t c s) (hl : c.lay ≠ 0 → laidw c ≠ 0) : Grow t (aftT t c s) := by
  unfold aftT
  split
  · rename_i h3
    have h8 := hw.i8 (by omega) (by omega)
    obtain ⟨hb, -⟩ := h.free h3.1
    rcases clmd_byt ho h8 hb with ⟨-, e⟩ | e
    · refine ⟨fun g j hj h0 => ?_, fun _ _ _ _ => rfl⟩
      show byt ((if g = gn c s.n then clmd c s else t.w g : Nat) : Int) j = _
      split
      · rename_i hg
        subst hg
        rw [e, h3.2]
        rw [h3.2] at h0
        exact Ct.clm_keeps hj h0
      · rfl
    · have := hw.w; omega
  · split
    · rename_i h6
      refine ⟨fun _ _ _ _ => rfl, fun g j hj h0 => ?_⟩
      show (if g = gn c s.n ∧ j = s.i then laidw c else t.l g j) = _
      split
      · rename_i e
        rw [e.1, e.2] at h0
        exact absurd h6.2 h0
      · rfl
    · exact Grow.refl t
theorem opn_new {s : S} (h : s.sh.p ≠ 3) : opn s = (s, false) := by unfold opn; rw [if_neg h]
theorem fr_slot {x : Nat} (h1 : x % 8 = 1) (h8 : 8 ≤ x) : Sh.fr x = true ∧ Tg.hd (x : Int) = true := by
  have h : Tg.hd (x : Int) = true := by unfold Tg.hd; simp; omega
  refine ⟨?_, h⟩
  unfold Sh.fr Tg.fr
  rw [h]
  simp
  omega
theorem sz_head {l m : List Nat} (h : l.getD 0 0 = m.getD 0 0) : Rd.sz l = Rd.sz m := by unfold Rd.sz; rw [h]
theorem sz_tk {l : List Nat} {k : Nat} (h : 0 < k) : Rd.sz (l.take k) = Rd.sz l := by
  refine sz_head ?_
  cases l with
  | nil => simp
  | cons a r =>
    cases k with
    | zero => omega
    | succ k => rfl
/-- Behind one act. -/
theorem li_step (ho : Ok c) (hw : Wf c s) (h : Li B t c s) (hp : s.p ≠ 0) (hci : Ci t) (hsi : Si B t) (hz : c.lay = 0 → ∀ g j : Nat, g < Tb.grp c.lg → j < 8 → byt (t.w g) j ≠ 0 → t.l g j ≠ 0) (hl : c.lay ≠ 0 → laidw c ≠ 0) (any : Nat) : Li B (aftT t c s) c (step c s (ansT B t c s any)) := by
  obtain ⟨c0, c1⟩ := cl_bd c ho.h
  have hgr := aftT_grow ho hw h hl
  have hG := h.g hp
  have hn := hw.nl hp
  have hpast := h.past hp
  have hp8 := hw.p
  have hp2 := h.p2
  rcases (show s.p = 1 ∨ s.p = 3 ∨ s.p = 4 ∨ (s.p = 5 ∨ s.p = 6) ∨ s.p = 7 ∨ s.p = 8 by omega) with e | e | e | e | e | e
  · have ea : aftT t c s = t := by unfold aftT; rw [if_neg (by omega), if_neg (by omega)]
    have ev : ansT B t c s any = t.w (gn c s.n) := by unfold ansT; rw [if_pos (by omega)]
    rw [ea, ev]
    unfold step
    rw [if_pos e]
    rw [if_pos e] at hpast
    exact li_goOn (s := { s with w := t.w (gn c s.n), i := 0 }) ho hci h.chk hn hG hpast (fun _ _ _ => rfl)
  · have h8 := hw.i8 (by omega) (by omega)
    rw [if_neg (by omega)] at hpast
    have ev : ansT B t c s any = t.w (gn c s.n) := by unfold ansT; rw [if_pos (by omega)]
    rw [ev]
    unfold step
    rw [if_neg (by omega), if_neg (by omega), if_pos e]
    split
    · rename_i hq
      have ea : aftT t c s = setW t (gn c s.n) (clmd c s) := by unfold aftT; rw [if_pos ⟨e, hq⟩]
      rw [ea] at hgr ⊢
      obtain ⟨hb, hly⟩ := h.free e
      have ew : (setW t (gn c s.n) (clmd c s)).w (gn c s.n) = clmd c s := if_pos rfl
      rcases clmd_byt ho h8 hb with ⟨hcb, -⟩ | hx
      · constructor <;> (try simp only []) <;> (try omega)
        · exact h.chk
        · intro _; rw [if_neg (by omega)]; exact hpast.grow hgr (by omega)
        · intro _; rw [ew]; exact fun _ _ _ => rfl
        · intro _; rw [ew]; exact hcb
      · have := hw.w; omega
    · rename_i hq
      have ea : aftT t c s = t := by unfold aftT; rw [if_neg (fun x => hq x.2), if_neg (by omega)]
      rw [ea]
      exact li_goOn (s := { s with w := t.w (gn c s.n) }) ho hci h.chk hn hG hpast (fun _ _ _ => rfl)
  · have h8 := hw.i8 (by omega) (by omega)
    rw [if_neg (by omega)] at hpast
    have ea : aftT t c s = t := by unfold aftT; rw [if_neg (by omega), if_neg (by omega)]
    rw [ea]
    unfold step
    rw [if_neg (by omega), if_neg (by omega), if_neg (by omega), if_pos e]
    have h1 := h.own (by omega)
    have h2 := h.lay (.inl e)
    have h3 := h.sub (by omega)
    constructor <;> (try simp only []) <;> (try omega)
    · exact h.chk
    · intro _; rw [if_neg (by omega)]; exact hpast
    · exact fun _ => h3
  · have h8 := hw.i8 (by omega) (by omega)
    rw [if_neg (by omega)] at hpast
    have h1 := h.own (by omega)
    have h3 := h.sub (by omega)
    have ev : ansT B t c s any = t.l (gn c s.n) s.i := by unfold ansT; rw [if_neg (by omega), if_pos e]
    rw [ev]
    unfold step
    rw [if_neg (by omega), if_neg (by omega), if_neg (by omega), if_neg (by omega), if_pos e]
    by_cases h0 : t.l (gn c s.n) s.i = 0
    · unfold told
      rw [if_pos h0]
      split
      · rename_i h6
        have hly := h.lay (.inr h6)
        have ea : aftT t c s = setL t (gn c s.n) s.i (laidw c) := by unfold aftT; rw [if_neg (by omega), if_pos ⟨h6, h0⟩]
        rw [ea] at hgr ⊢
        have el : (setL t (gn c s.n) s.i (laidw c)).l (gn c s.n) s.i = laidw c := if_pos ⟨rfl, rfl⟩
        unfold Sk.aft
        rw [if_neg (by simp)]
        constructor <;> (try simp only [Sk.fin]) <;> (try omega)
        · exact h.chk
        · intro _
          refine .inr (.inr (.inl ⟨hly, hn, h8, hpast.grow hgr (Nat.le_of_lt h8), h1, el, ?_⟩))
          simp only [scell, hG]
      · rename_i h6
        have ea : aftT t c s = t := by unfold aftT; rw [if_neg (by omega), if_neg (fun x => h6 x.1)]
        rw [ea]
        split
        · rename_i hly
          exact absurd h0 (hz hly _ _ (show gn c s.n < Tb.grp c.lg from Rt.gat_lt (by omega)) h8 (by rw [h1]; omega))
        · rename_i hly
          unfold Sk.aft
          rw [if_neg (by simp)]
          constructor <;> (try simp only []) <;> (try omega)
          · exact h.chk
          · intro _; rw [if_neg (by omega)]; exact hpast
          · exact fun _ => h3
    · have ea : aftT t c s = t := by unfold aftT; rw [if_neg (by omega), if_neg (fun x => h0 x.2)]
      rw [ea]
      obtain ⟨q1, q2, q3⟩ := hsi _ _ h8 h0
      unfold told
      rw [if_neg h0]
      unfold exam
      rw [Sh.new_yes (fr_slot q1 q2).1, opn_new (by simp)]
      unfold Sk.aft
      rw [if_neg (by simp)]
      constructor <;> (try simp only []) <;> (try omega)
      · exact h.chk
      · intro _; rw [if_neg (by omega)]; exact hpast
      · exact fun _ => h3
      · exact fun _ => ⟨trivial, h0⟩
  · have h8 := hw.i8 (by omega) (by omega)
    rw [if_neg (by omega)] at hpast
    have h1 := h.own (by omega)
    have h3 := h.sub (by omega)
    obtain ⟨hr, hr0⟩ := h.sl e
    have ea : aftT t c s = t := by unfold aftT; rw [if_neg (by omega), if_neg (by omega)]
    rw [ea]
    unfold step
    rw [if_neg (by omega), if_neg (by omega), if_neg (by omega), if_neg (by omega), if_neg (by omega), if_pos e]
    obtain ⟨q1, q2, q3⟩ := hsi _ _ h8 (by rw [← hr]; exact hr0)
    rcases (show s.sh.p = 1 ∨ s.sh.p = 2 by have := hw.shi e; omega) with e1 | e1
    · have es : Sh.step s.sh (ansT B t c s any) = ⟨2, s.sh.r⟩ := by unfold Sh.step; rw [if_pos e1]
      rw [es, opn_new (by simp)]
      unfold Sk.aft
      rw [if_neg (by simp)]
      constructor <;> (try simp only []) <;> (try omega)
      · exact h.chk
      · intro _; rw [if_neg (by omega)]; exact hpast
      · exact fun _ => h3
    · have ev : ansT B t c s any = s.sh.r := by unfold ansT; rw [if_neg (by omega), if_neg (by omega), if_pos e, if_neg (by omega), hr]
      have es : Sh.step s.sh (ansT B t c s any) = ⟨3, s.sh.r⟩ := by
        rw [ev]
        unfold Sh.step
        rw [if_neg (by omega), if_pos e1, Sh.oth_same rfl, Bool.and_false]
        rfl
      rw [es]
      unfold opn
      rw [if_pos rfl, if_pos (fr_slot (by rw [hr]; exact q1) (by rw [hr]; exact q2)).2]
      unfold Sk.aft
      rw [if_neg (by simp)]
      constructor <;> (try simp only []) <;> (try omega)
      · exact h.chk
      · intro _; rw [if_neg (by omega)]; exact hpast
      · exact fun _ => h3
      · exact fun _ => ⟨hr, hr0, by simp⟩
  · have h8 := hw.i8 (by omega) (by omega)
    rw [if_neg (by omega)] at hpast
    have h1 := h.own (by omega)
    have h3 := h.sub (by omega)
    obtain ⟨hx, hx0, hrs⟩ := h.rd e
    obtain ⟨hlt, -⟩ := hw.rd e
    obtain ⟨q1, q2, q3⟩ := hsi _ _ h8 (by rw [← hx]; exact hx0)
    have ea : aftT t c s = t := by unfold aftT; rw [if_neg (by omega), if_neg (by omega)]
    have ev : ansT B t c s any = (B (s.x / 8)).getD s.rs.length 0 := by unfold ansT; rw [if_neg (by omega), if_neg (by omega), if_neg (by omega), if_pos e]
    rw [ea, ev]
    rw [← hx] at q1 q2 q3
    obtain ⟨m, hm⟩ : ∃ m, m = s.rs.length := ⟨_, rfl⟩
    rw [← hm] at hrs hlt ⊢
    have hml : m < (B (s.x / 8)).length := by
      by_cases hm0 : m = 0
      · have := Rd.sz_bd (B (s.x / 8)); omega
      · rw [hrs, sz_tk (by omega), q3] at hlt; exact hlt
    have hnx : s.rs ++ [(B (s.x / 8)).getD m 0] = (B (s.x / 8)).take (m + 1) := by
      rw [hrs, List.take_add_one, List.getD_eq_getElem?_getD, List.getElem?_eq_getElem hml]
      rfl
    unfold step
    rw [if_neg (by omega), if_neg (by omega), if_neg (by omega), if_neg (by omega), if_neg (by omega), if_neg (by omega), if_pos e, hnx]
    unfold cmp
    simp only []
    rw [sz_tk (by omega), q3, List.length_take]
    split
    · rename_i hm2
      unfold Sk.aft
      rw [if_neg (by simp)]
      constructor <;> (try simp only []) <;> (try omega)
      · exact h.chk
      · intro _; rw [if_neg (by omega)]; exact hpast
      · exact fun _ => h3
      · intro _
        refine ⟨hx, hx0, ?_⟩
        rw [List.length_take, Nat.min_eq_left (by omega)]
    · rename_i hm2
      rw [List.take_of_length_le (by omega)]
      split
      · rename_i hk
        rw [if_pos (fr_slot q1 q2).1]
        unfold Sk.aft
        rw [if_neg (by simp)]
        constructor <;> (try simp only [Sk.fin]) <;> (try omega)
        · exact h.chk
        · intro _
          refine .inr (.inl ⟨s.x, hx0, hn, h8, hpast, h1, hx.symm, hk, ?_⟩)
          simp only [scell, hG]
      · rename_i hk
        unfold Sk.aft
        rw [if_pos rfl]
        refine li_goOn (s := { s with rs := B (s.x / 8), i := s.i + 1 }) ho hci h.chk hn hG ⟨hpast.1, fun j hj => ?_⟩ h3
        by_cases hji : j = s.i
        · subst hji
          exact ⟨by rw [h1]; omega, fun _ => ⟨by rw [← hx]; exact hx0, by rw [← hx]; exact hk⟩⟩
        · exact hpast.2 j (by simp only at hj; omega)
end
end Go.Proofs.YtknefjigdlbacaaGreatDoor.Sk
