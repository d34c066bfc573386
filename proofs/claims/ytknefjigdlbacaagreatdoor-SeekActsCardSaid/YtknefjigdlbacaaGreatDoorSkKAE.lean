/-
  Several texts in one: Who seeks a key in a table, as plain data: where it is behind what was answered, and which act comes next. No program in it; A seek behind a list of answers: its crowd, its shield, its reader on the way. Plain mathematics; What the texts share: posts, the size of a word. By an AI agent.
-/
import Derived.Test.YtknefjigdlbacaaGreatDoorSkKAA
import Derived.Test.YtknefjigdlbacaaGreatDoorSkKAC
import Derived.Test.YtknefjigdlbacaaGreatDoorSkKAD
import Derived.Test.YtknefjigdlbacaaGreatDoorChecked
import Derived.WalkKit
import Derived.WalkSpells
import Derived.WalkLawsBesides
import Derived.WalkMore
import Derived.Below
import Derived.Lib.Hide
import Derived.IntWalk
set_option linter.unusedVariables false
set_option linter.unusedSimpArgs false
namespace Go.Proofs.YtknefjigdlbacaaGreatDoor.Sk
open Go.Proofs.YtknefjigdlbacaaGreatDoor
abbrev A := Go.Proofs.YtknefjigdlbacaaGreatDoor.Ac.A
/-- Who seeks: the site (desk, thread, threads, keep, seed), the table, the key with its hash, and the box that is laid. -/
structure C where
  d : Nat
  th : Nat
  nn : Int
  kp : Int
  sd : Nat
  b : Nat
  lg : Int
  key : List UInt8
  h : Nat
  lay : Nat
/-- What is found. -/
structure F where
  k : Nat
  c : Int
  w : Nat
  v : List UInt8
abbrev F.z : F := ⟨0, 0, 0, []⟩
/-- Where a seek is. -/
structure S where
  p : Nat
  chk : Bool
  n : Nat
  g : Int
  i : Nat
  w : Nat
  x : Nat
  cs : List Nat
  sh : Sh.S
  rs : List Nat
  f : F
variable (c : C)
def cl : Int := 128 + (c.h : Int) % 128
def gcell (s : S) : Int := Tb.gc (Tb.grp c.lg) s.g
def scell (s : S) : Int := Tb.sc (Tb.grp c.lg) s.g s.i
def clmd (s : S) : Nat := (Ct.clm s.w s.i (cl c)).toNat
def laidw : Nat := (c.lay * 8 + 1) % 18446744073709551616
def fin (s : S) (f : F) : S := { s with f := f, p := 0 }
def toG (s : S) (n : Nat) : S :=
  if 0 ≤ Rt.gp c.h c.lg n then { s with n := n, g := Rt.gp c.h c.lg n, p := 1 }
  else if c.lay = 0 then fin { s with n := n, g := Rt.gp c.h c.lg n } ⟨1, 0, 0, []⟩
  else fin { s with n := n, g := Rt.gp c.h c.lg n } ⟨5, 0, 0, []⟩
def free (s : S) : S := if c.lay = 0 then fin s ⟨1, 0, 0, []⟩ else if s.chk then { s with chk := false, p := 2, cs := [] } else { s with p := 3 }
/-- From this place on. -/
def goOn (s : S) : S :=
  if Ct.nxc s.w s.i (cl c) = 1 then free c { s with i := (Ct.nxp s.w s.i (cl c)).toNat }
  else if Ct.nxc s.w s.i (cl c) = 2 then fin { s with i := (Ct.nxp s.w s.i (cl c)).toNat } ⟨4, 0, 0, []⟩
  else if Ct.nxc s.w s.i (cl c) = 3 then { s with i := (Ct.nxp s.w s.i (cl c)).toNat, p := 5 }
  else toG c { s with i := (Ct.nxp s.w s.i (cl c)).toNat } (s.n + 1)
def hear (s : S) : S := if Cw.more s.cs then s else if Cw.told (7 * Tb.grp c.lg) s.cs then fin s ⟨6, 0, 0, []⟩ else { s with p := 3 }
def opn (s : S) : S × Bool :=
  if s.sh.p = 3 then
    (if Tg.hd (s.sh.r : Int) then ({ s with x := s.sh.r, p := 8, rs := [] }, false)
    else if s.sh.r = 5 then (fin s ⟨4, 0, 0, []⟩, false) else (s, true))
  else (s, false)
def exam (s : S) (got : Nat) : S × Bool := opn { s with p := 7, sh := Sh.new got }
def told (s : S) (got : Nat) : S × Bool :=
  if got = 0 then (if s.p = 6 then (fin s ⟨3, scell c s, laidw c, []⟩, false) else if c.lay = 0 then (fin s ⟨1, 0, 0, []⟩, false) else ({ s with p := 6 }, false))
  else exam s got
def cmp (s : S) : S × Bool :=
  if s.rs.length < Rd.sz s.rs then (s, false)
  else if Rd.key s.rs = c.key then (if Sh.fr s.x then (fin s ⟨2, scell c s, s.x, Rd.val s.rs⟩, false) else (fin s ⟨4, 0, 0, []⟩, false)) else (s, true)
def aft (x : S × Bool) : S := if x.2 then goOn c { x.1 with i := x.1.i + 1 } else x.1
/-- One answer more. -/
def step (s : S) (got : Nat) : S :=
  if s.p = 1 then goOn c { s with w := got, i := 0 }
  else if s.p = 2 then hear c { s with cs := Cw.step s.cs got }
  else if s.p = 3 then (if got = s.w then { s with w := clmd c s, p := 4 } else goOn c { s with w := got })
  else if s.p = 4 then { s with p := 6 }
  else if s.p = 5 ∨ s.p = 6 then aft c (told c s got)
  else if s.p = 7 then aft c (opn { s with sh := Sh.step s.sh got })
  else if s.p = 8 then aft c (cmp c { s with rs := s.rs ++ [got] })
  else s
/-- The act that comes next. -/
def act (s : S) : A :=
  if s.p = 1 then ⟨1, c.b, gcell c s, 0, 0⟩
  else if s.p = 2 then Cw.act c.b s.cs
  else if s.p = 3 then ⟨3, c.b, gcell c s, s.w, clmd c s⟩
  else if s.p = 4 then ⟨4, c.b, Tb.strp c.th, 0, 1⟩
  else if s.p = 5 then ⟨1, c.b, scell c s, 0, 0⟩
  else if s.p = 6 then ⟨3, c.b, scell c s, 0, laidw c⟩
  else if s.p = 7 then Sh.act c.d (3 + 2 * (c.th : Int)) c.b (scell c s) s.sh
  else if s.p = 8 then Rd.act (s.x / 8) s.rs s.rs.length
  else ⟨0, 0, 0, 0, 0⟩
def more (s : S) : Bool := s.p != 0
def zero (chk : Bool) : S := ⟨0, chk, 0, 0, 0, 0, 0, [], ⟨0, 0⟩, [], F.z⟩
def start (chk : Bool) : S := toG c (zero chk) 0
def run (chk : Bool) (l : List Nat) : S := l.foldl (step c) (start c chk)
/-- What a seek may be. -/
structure Ok : Prop where
  th : c.th ≤ 63
  b : c.b < 18446744073709551616
  lg : 1 ≤ Tb.grp c.lg
  h : c.h < 18446744073709551616
  lay : c.lay < 18446744073709551616
/-- What a state may be. -/
structure Wf (s : S) : Prop where
  p : s.p ≤ 8
  w : s.w < 18446744073709551616
  x : s.x < 18446744073709551616
  r : s.sh.r < 18446744073709551616
  i : s.i ≤ 8
  fz : s.p ≠ 0 → s.f = F.z
  fk : s.p = 0 → s.f.k ≠ 0
  fw : s.f.w < 18446744073709551616
  n : s.n ≤ Tb.grp c.lg
  nl : s.p ≠ 0 → s.n < Tb.grp c.lg
  g : s.p ≠ 0 → 0 ≤ s.g ∧ s.g < Tb.grp c.lg
  i8 : s.p ≠ 0 → s.p ≠ 1 → s.i < 8
  ask : s.p = 2 → s.cs.length < 4
  shi : s.p = 7 → 1 ≤ s.sh.p ∧ s.sh.p ≤ 2
  rd : s.p = 8 → s.rs.length < Rd.sz s.rs ∧ ∀ y ∈ s.rs, y < 18446744073709551616
theorem grp_eq (l : Int) : Rt.grp l = Tb.grp l := rfl
theorem cl_bd (h : c.h < 18446744073709551616) : 128 ≤ cl c ∧ cl c ≤ 255 := by unfold cl; omega
theorem nx_small (x a k : Int) : Ct.nxc x a k ≠ 0 → Ct.nxp x a k < 8 := by
  intro h
  apply Decidable.byContradiction
  intro h2
  exact h (by unfold Ct.nxc; rw [if_neg h2])
theorem nxp_nat (x a k : Int) : ((Ct.nxp x a k).toNat : Int) = Ct.nxp x a k := Int.toNat_of_nonneg (Ct.nxp_bd x a k).1
theorem clmd_bd {c : C} {s : S} (hw : s.w < 18446744073709551616) : clmd c s < 18446744073709551616 := by
  have := Ct.clm_bd (x := (s.w : Int)) s.i (cl c) (by omega) (by omega)
  unfold clmd; omega
theorem clmd_int {c : C} {s : S} (hw : s.w < 18446744073709551616) : ((clmd c s : Nat) : Int) = Ct.clm s.w s.i (cl c) := by
  have := Ct.clm_bd (x := (s.w : Int)) s.i (cl c) (by omega) (by omega)
  unfold clmd; omega
theorem laidw_bd : laidw c < 18446744073709551616 := Nat.mod_lt _ (by decide)
/-- What goOn wants. -/
structure Wg (s : S) : Prop where
  w : s.w < 18446744073709551616
  x : s.x < 18446744073709551616
  r : s.sh.r < 18446744073709551616
  f : s.f = F.z
  n : s.n < Tb.grp c.lg
  g : 0 ≤ s.g ∧ s.g < Tb.grp c.lg
variable {c}
theorem wf_fin {s : S} {f : F} (h : Wg c s ∨ (s.w < 18446744073709551616 ∧ s.x < 18446744073709551616 ∧ s.sh.r < 18446744073709551616 ∧ s.n ≤ Tb.grp c.lg)) (hi : s.i ≤ 8) (hf : f.k ≠ 0) (hw : f.w < 18446744073709551616) : Wf c (fin s f) := by
  have h' : s.w < 18446744073709551616 ∧ s.x < 18446744073709551616 ∧ s.sh.r < 18446744073709551616 ∧ s.n ≤ Tb.grp c.lg := by
    rcases h with h | h
    · exact ⟨h.w, h.x, h.r, by have := h.n; omega⟩
    · exact h
  constructor <;> simp only [fin] <;> (try omega)
  all_goals first | exact hf | (intro e; omega) | exact fun _ => hf | skip
theorem wf_toG {s : S} (ho : Ok c) (hw : s.w < 18446744073709551616) (hx : s.x < 18446744073709551616) (hr : s.sh.r < 18446744073709551616) (hf : s.f = F.z) (hi : s.i ≤ 8) {n : Nat} (hn : n ≤ Tb.grp c.lg) : Wf c (toG c s n) := by
  unfold toG
  split
  · rename_i hg
    have hn2 : n < Tb.grp c.lg := by
      apply Decidable.byContradiction
      intro h2
      rw [Rt.gp_out (.inr (by rw [grp_eq]; omega))] at hg
      omega
    have e := Rt.gp_in (h := c.h) (log := c.lg) (i := n) (by rw [grp_eq]; exact hn2)
    have l := Rt.gat_lt (s := c.h / 128) (n := Rt.grp c.lg) (i := n) (by rw [grp_eq]; omega)
    have l2 := grp_eq c.lg
    constructor <;> (try simp only []) <;> (try omega)
    all_goals first | exact fun _ => hf | (rw [hf]; decide) | skip
  · split
    · exact wf_fin (.inr ⟨hw, hx, hr, hn⟩) hi (by simp) (by simp)
    · exact wf_fin (.inr ⟨hw, hx, hr, hn⟩) hi (by simp) (by simp)
theorem wf_free {s : S} (h : Wg c s) (hi : s.i < 8) : Wf c (free c s) := by
  obtain ⟨hw, hx, hr, hf, hn, hg⟩ := h
  unfold free
  split
  · exact wf_fin (.inl ⟨hw, hx, hr, hf, hn, hg⟩) (by omega) (by simp) (by simp)
  · split
    · constructor <;> (try simp only []) <;> (try omega)
      all_goals first | exact fun _ => hf | (rw [hf]; decide) | (intro _; exact hg) | (simp; done) | skip
    · constructor <;> (try simp only []) <;> (try omega)
      all_goals first | exact fun _ => hf | (rw [hf]; decide) | (intro _; exact hg) | (simp; done) | skip
theorem wf_goOn {s : S} (ho : Ok c) (h : Wg c s) : Wf c (goOn c s) := by
  have hb := Ct.nxp_bd s.w s.i (cl c)
  have hs := nx_small s.w s.i (cl c)
  have hN := nxp_nat s.w s.i (cl c)
  obtain ⟨hw, hx, hr, hf, hn, hg⟩ := h
  have hg2 : ∀ i, Wg c { s with i := i } := fun i => ⟨hw, hx, hr, hf, hn, hg⟩
  unfold goOn
  split
  · exact wf_free (s := { s with i := (Ct.nxp s.w s.i (cl c)).toNat }) (hg2 _) (by have := hs (by omega); show (Ct.nxp s.w s.i (cl c)).toNat < 8; omega)
  · split
    · exact wf_fin (s := { s with i := (Ct.nxp s.w s.i (cl c)).toNat }) (.inl (hg2 _)) (by show (Ct.nxp s.w s.i (cl c)).toNat ≤ 8; omega) (by simp) (by simp)
    · split
      · have := hs (by omega)
        constructor <;> (try simp only []) <;> (try omega)
        all_goals first | exact fun _ => hf | (rw [hf]; decide) | (intro _; exact hg) | skip
      · exact wf_toG (s := { s with i := (Ct.nxp s.w s.i (cl c)).toNat }) ho hw hx hr hf (by show (Ct.nxp s.w s.i (cl c)).toNat ≤ 8; omega) (by omega)
theorem wf_wg {s : S} (h : Wf c s) (hp : s.p ≠ 0) : Wg c s := ⟨h.w, h.x, h.r, h.fz hp, h.nl hp, h.g hp⟩
theorem sh_told (v : Nat) (b : Bool) : (Sh.told v b).p ≠ 3 → (Sh.told v b).p = 1 := by cases b <;> simp [Sh.told]
/-- Behind the slot was told, or the shield: the state, and whether it goes on behind this place. -/
structure Wt (x : S × Bool) : Prop where
  no : x.2 = false → Wf c x.1
  yes : x.2 = true → Wg c x.1
theorem wt_opn {s : S} (h : Wg c s) (hp : s.p = 7) (hi : s.i < 8) (hs : 1 ≤ s.sh.p ∧ s.sh.p ≤ 3) : @Wt c (opn s) := by
  have h' := h
  obtain ⟨hw, hx, hr, hf, hn, hg⟩ := h
  unfold opn
  split
  · split
    · refine ⟨fun _ => ?_, fun e => by cases e⟩
      have := Rd.sz_bd []
      constructor <;> (try simp only []) <;> (try omega)
      all_goals first | exact fun _ => hf | (rw [hf]; decide) | (intro _; exact hg) | (intro _; refine ⟨?_, fun y hy => (by cases hy)⟩; simp only [List.length_nil]; omega) | skip
    · split
      · exact ⟨fun _ => wf_fin (.inl h') (by omega) (by simp) (by simp), fun e => by cases e⟩
      · exact ⟨fun e => (by cases e), fun _ => h'⟩
  · refine ⟨fun _ => ?_, fun e => by cases e⟩
    constructor <;> (try simp only []) <;> (try omega)
    all_goals first | exact fun _ => hf | (rw [hf]; decide) | (intro _; exact hg) | skip
theorem wt_told {s : S} (h : Wg c s) (hp : s.p = 5 ∨ s.p = 6) (hi : s.i < 8) {got : Nat} (hgot : got < 18446744073709551616) : @Wt c (told c s got) := by
  have h' := h
  obtain ⟨hw, hx, hr, hf, hn, hg⟩ := h
  unfold told
  split
  · split
    · exact ⟨fun _ => wf_fin (.inl h') (by omega) (by simp) (laidw_bd c), fun e => by cases e⟩
    · split
      · exact ⟨fun _ => wf_fin (.inl h') (by omega) (by simp) (by simp), fun e => by cases e⟩
      · refine ⟨fun _ => ?_, fun e => by cases e⟩
        constructor <;> (try simp only []) <;> (try omega)
        all_goals first | exact fun _ => hf | (rw [hf]; decide) | (intro _; exact hg) | skip
  · unfold exam
    refine wt_opn (s := { s with p := 7, sh := Sh.new got }) ⟨hw, hx, ?_, hf, hn, hg⟩ rfl hi (Sh.new_p got)
    simp only [Sh.new, Sh.told]; exact hgot
theorem wt_cmp {s : S} (h : Wg c s) (hp : s.p = 8) (hi : s.i < 8) (hr8 : ∀ y ∈ s.rs, y < 18446744073709551616) : @Wt c (cmp c s) := by
  have h' := h
  obtain ⟨hw, hx, hr, hf, hn, hg⟩ := h
  unfold cmp
  split
  · rename_i hl
    refine ⟨fun _ => ?_, fun e => by cases e⟩
    constructor <;> (try simp only []) <;> (try omega)
    all_goals first | exact fun _ => hf | (rw [hf]; decide) | (intro _; exact hg) | exact fun _ => ⟨hl, hr8⟩ | skip
  · split
    · split
      · exact ⟨fun _ => wf_fin (.inl h') (by omega) (by simp) hx, fun e => by cases e⟩
      · exact ⟨fun _ => wf_fin (.inl h') (by omega) (by simp) (by simp), fun e => by cases e⟩
    · exact ⟨fun e => (by cases e), fun _ => h'⟩
theorem wf_aft {x : S × Bool} (ho : Ok c) (h : @Wt c x) : Wf c (aft c x) := by
  unfold aft
  split
  · rename_i e
    obtain ⟨hw, hx, hr, hf, hn, hg⟩ := h.yes e
    exact wf_goOn ho ⟨hw, hx, hr, hf, hn, hg⟩
  · rename_i e
    exact h.no (by simpa using e)
/-- A state that has not ended lies ahead of the last group. -/
theorem wf_step {s : S} (ho : Ok c) (h : Wf c s) {got : Nat} (hgot : got < 18446744073709551616) : Wf c (step c s got) := by
  by_cases hp : s.p = 0
  · unfold step
    repeat rw [if_neg (by omega)]
    exact h
  · have hg := wf_wg h hp
    have hg' := hg
    obtain ⟨hw, hx, hr, hf, hn, hgg⟩ := hg
    have hi := h.i8 hp
    unfold step
    split
    · exact wf_goOn ho ⟨hgot, hx, hr, hf, hn, hgg⟩
    · split
      · have h4 := h.ask (by assumption)
        have hi := hi (by omega)
        unfold hear
        split
        · rename_i hm
          constructor <;> (try simp only []) <;> (try omega)
          all_goals first | exact fun _ => hf | (rw [hf]; decide) | (intro _; exact hgg) | skip
          intro _
          simpa [Cw.more] using hm
        · split
          · exact wf_fin (.inl ⟨hw, hx, hr, hf, hn, hgg⟩) (by simp only; omega) (by simp) (by simp)
          · constructor <;> (try simp only []) <;> (try omega)
            all_goals first | exact fun _ => hf | (rw [hf]; decide) | (intro _; exact hgg) | skip
      · split
        · have hi := hi (by omega)
          split
          · have := clmd_bd (c := c) (s := s) hw
            constructor <;> (try simp only []) <;> (try omega)
            all_goals first | exact fun _ => hf | (rw [hf]; decide) | (intro _; exact hgg) | skip
          · exact wf_goOn ho ⟨hgot, hx, hr, hf, hn, hgg⟩
        · split
          · have hi := hi (by omega)
            constructor <;> (try simp only []) <;> (try omega)
            all_goals first | exact fun _ => hf | (rw [hf]; decide) | (intro _; exact hgg) | skip
          · split
            · exact wf_aft ho (wt_told hg' (by assumption) (hi (by omega)) hgot)
            · split
              · have hi := hi (by omega)
                have hs := h.shi (by assumption)
                exact wf_aft ho (wt_opn ⟨hw, hx, Sh.step_r hr hgot, hf, hn, hgg⟩ (by assumption) hi (Sh.step_p ⟨hs.1, by omega⟩ got))
              · split
                · have hi := hi (by omega)
                  have hs := h.rd (by assumption)
                  refine wf_aft ho (wt_cmp ⟨hw, hx, hr, hf, hn, hgg⟩ (by assumption) hi ?_)
                  intro y hy
                  rcases List.mem_append.1 hy with hy | hy
                  · exact hs.2 y hy
                  · rw [List.mem_singleton.1 hy]; exact hgot
                · exact h
end Go.Proofs.YtknefjigdlbacaaGreatDoor.Sk
set_option linter.unusedVariables false
set_option linter.unusedSimpArgs false
namespace Go.Proofs.YtknefjigdlbacaaGreatDoor.Sk
open Go.Proofs.YtknefjigdlbacaaGreatDoor
/-- Behind these answers, from a state on. -/
def runs (c : C) (s : S) (l : List Nat) : S := l.foldl (step c) s
theorem runs_nil (c : C) (s : S) : runs c s [] = s := rfl
theorem runs_cons (c : C) (s : S) (g : Nat) (l : List Nat) : runs c s (g :: l) = runs c (step c s g) l := rfl
theorem runs_append (c : C) (s : S) (a b : List Nat) : runs c s (a ++ b) = runs c (runs c s a) b := List.foldl_append
theorem runs_end {c : C} {s : S} (h : s.p = 0) (l : List Nat) : runs c s l = s := by
  induction l with
  | nil => rfl
  | cons g l ih =>
    rw [runs_cons]
    have : step c s g = s := by unfold step; repeat rw [if_neg (by omega)]
    rw [this, ih]
variable {c : C} {chk : Bool} {gs : List Nat}
theorem run_take_add (k m : Nat) : run c chk (gs.take (k + m)) = runs c (run c chk (gs.take k)) ((gs.drop k).take m) := by
  show (gs.take (k + m)).foldl _ _ = ((gs.drop k).take m).foldl _ ((gs.take k).foldl _ _)
  rw [← List.foldl_append, List.take_add]
theorem run_rest (k : Nat) : run c chk gs = runs c (run c chk (gs.take k)) (gs.drop k) := by
  show gs.foldl _ _ = (gs.drop k).foldl _ ((gs.take k).foldl _ _)
  rw [← List.foldl_append, List.take_append_drop]
theorem run_one {k : Nat} (h : k < gs.length) : run c chk (gs.take (k + 1)) = step c (run c chk (gs.take k)) (gs.getD k 0) := by
  unfold run
  rw [List.take_add_one, List.getD_eq_getElem?_getD, List.getElem?_eq_getElem h, Option.toList_some, List.foldl_append]
  rfl
theorem run_full {k : Nat} (h : k = gs.length) : run c chk (gs.take k) = run c chk gs := by rw [h, List.take_length]
theorem run_ended {k : Nat} (h : (run c chk (gs.take k)).p = 0) : run c chk gs = run c chk (gs.take k) := by rw [run_rest k, runs_end h]
/-! ### the crowd -/
theorem ask_few {s : S} (hp : s.p = 2) : ∀ (l : List Nat), s.cs.length + l.length < 4 → runs c s l = { s with cs := s.cs ++ l }
  | [], _ => by rw [runs_nil, List.append_nil]
  | g :: l, h => by
    simp only [List.length_cons] at h
    have e : step c s g = { s with cs := s.cs ++ [g] } := by
      unfold step
      rw [if_neg (by omega), if_pos hp, Cw.step_yes (by omega)]
      unfold hear
      rw [if_pos (by simp only [Cw.more, decide_eq_true_eq, List.length_append, List.length_singleton]; omega)]
    rw [runs_cons, e, ask_few (s := { s with cs := s.cs ++ [g] }) hp l (by simp only [List.length_append, List.length_singleton]; omega)]
    simp
theorem ask_all {s : S} (hp : s.p = 2) (hc : s.cs = []) {l : List Nat} (h : 4 ≤ l.length) : runs c s (l.take 4) = hear c { s with cs := l.take 4 } := by
  have e : l.take 4 = l.take 3 ++ [l.getD 3 0] := by
    rw [show 4 = 3 + 1 from rfl, List.take_add_one, List.getD_eq_getElem?_getD, List.getElem?_eq_getElem (by omega)]
    rfl
  rw [e, runs_append, ask_few hp (l.take 3) (by rw [hc, List.length_take]; simp; omega), runs_cons, runs_nil]
  unfold step
  rw [if_neg (by simp only; omega), if_pos hp]
  simp only [hc, List.nil_append]
  rw [Cw.step_yes (by rw [List.length_take]; omega)]
theorem hear_all {s : S} {l : List Nat} (h : 4 ≤ l.length) : hear c { s with cs := l.take 4 } = if Cw.told (7 * Tb.grp c.lg) l then fin { s with cs := l.take 4 } ⟨6, 0, 0, []⟩ else { s with cs := l.take 4, p := 3 } := by
  unfold hear
  rw [if_neg (by simp only [Cw.more, decide_eq_true_eq, List.length_take]; omega)]
  have e : Cw.told (7 * Tb.grp c.lg) (l.take 4) = Cw.told (7 * Tb.grp c.lg) l := by
    unfold Cw.told
    rw [show l.take 4 = Cw.run l from rfl, Cw.sum_run]
  simp only [e]
/-! ### the shield -/
theorem opn_more {s : S} (h : Sh.more s.sh = true) : opn s = (s, false) := by
  unfold opn
  rw [if_neg (by intro e; simp [Sh.more, e] at h)]
theorem sh_go {s : S} (hp : s.p = 7) : ∀ (l : List Nat), (∀ j, j ≤ l.length → Sh.more ((l.take j).foldl Sh.step s.sh) = true) → runs c s l = { s with sh := l.foldl Sh.step s.sh }
  | [], _ => rfl
  | g :: l, h => by
    have h1 : Sh.more (Sh.step s.sh g) = true := h 1 (by simp)
    have e : step c s g = { s with sh := Sh.step s.sh g } := by
      unfold step
      repeat rw [if_neg (by omega)]
      rw [if_pos hp, opn_more h1]
      rfl
    rw [runs_cons, e, sh_go (s := { s with sh := Sh.step s.sh g }) hp l (fun j hj => by
      have := h (j + 1) (by simp; omega)
      simpa using this)]
    rfl
/-- The shield ends at its m-th answer: behind exam, as well as on the way. -/
theorem sh_end {s : S} {x u m : Nat} {l : List Nat} (hm : m ≤ l.length) (he : Sh.run x (l.take m) = ⟨3, u⟩) (hb : ∀ j, j < m → Sh.more (Sh.run x (l.take j)) = true) : runs c (aft c (exam s x)) (l.take m) = aft c (opn { s with p := 7, sh := ⟨3, u⟩ }) := by
  cases m with
  | zero =>
    have he : Sh.new x = ⟨3, u⟩ := he
    rw [List.take_zero, runs_nil]
    unfold exam
    rw [he]
  | succ m =>
    have h0 : Sh.more (Sh.new x) = true := hb 0 (by omega)
    have e0 : aft c (exam s x) = { s with p := 7, sh := Sh.new x } := by
      unfold exam
      rw [opn_more (s := { s with p := 7, sh := Sh.new x }) h0]
      rfl
    have hl : m < l.length := by omega
    rw [e0, List.take_add_one, List.getElem?_eq_getElem hl, Option.toList_some, runs_append,
      sh_go (s := { s with p := 7, sh := Sh.new x }) rfl (l.take m) (fun j hj => by
        rw [List.length_take] at hj
        have := hb j (by omega)
        rw [List.take_take, Nat.min_eq_left (by omega)]
        exact this), runs_cons, runs_nil]
    have e1 : Sh.step ((l.take m).foldl Sh.step (Sh.new x)) l[m] = ⟨3, u⟩ := by
      rw [← he]
      unfold Sh.run
      rw [List.take_add_one, List.getElem?_eq_getElem hl, Option.toList_some, List.foldl_append]
      rfl
    unfold step
    repeat rw [if_neg (by simp only; omega)]
    rw [if_pos rfl]
    simp only [e1]
theorem sh_over {s : S} {x : Nat} {l : List Nat} (hb : ∀ j, j ≤ l.length → Sh.more (Sh.run x (l.take j)) = true) : runs c (aft c (exam s x)) l = { s with p := 7, sh := Sh.run x l } := by
  have h0 : Sh.more (Sh.new x) = true := hb 0 (by omega)
  have e0 : aft c (exam s x) = { s with p := 7, sh := Sh.new x } := by
    unfold exam
    rw [opn_more (s := { s with p := 7, sh := Sh.new x }) h0]
    rfl
  rw [e0, sh_go (s := { s with p := 7, sh := Sh.new x }) rfl l hb]
  rfl
/-! ### the reader -/
theorem sz_prefix {a b : List Nat} (h : a ≠ []) : Rd.sz (a ++ b) = Rd.sz a := by
  cases a with
  | nil => exact absurd rfl h
  | cons x r => rfl
theorem cmp_few {s : S} (h : s.rs.length < Rd.sz s.rs) : cmp c s = (s, false) := by unfold cmp; rw [if_pos h]
theorem rd_few {s : S} (hp : s.p = 8) : ∀ (l : List Nat), s.rs.length + l.length < Rd.sz (s.rs ++ l) → runs c s l = { s with rs := s.rs ++ l }
  | [], _ => by rw [runs_nil, List.append_nil]
  | g :: l, h => by
    simp only [List.length_cons] at h
    have e2 : s.rs ++ g :: l = (s.rs ++ [g]) ++ l := by simp
    rw [e2, sz_prefix (by simp)] at h
    have e : step c s g = { s with rs := s.rs ++ [g] } := by
      unfold step
      repeat rw [if_neg (by omega)]
      rw [if_pos hp, cmp_few (s := { s with rs := s.rs ++ [g] }) (by simp only [List.length_append, List.length_singleton]; omega)]
      rfl
    rw [runs_cons, e, rd_few (s := { s with rs := s.rs ++ [g] }) hp l (by rw [sz_prefix (by simp)]; simp only [List.length_append, List.length_singleton]; omega)]
    simp
theorem sz_take {l : List Nat} {k : Nat} (h : 0 < k) (hl : 0 < l.length) : Rd.sz (l.take k) = Rd.sz l := by
  have : l = l.take k ++ l.drop k := (List.take_append_drop k l).symm
  conv => rhs; rw [this]
  rw [sz_prefix]
  intro e
  have := congrArg List.length e
  rw [List.length_take, List.length_nil] at this
  omega
theorem rd_end {s : S} (hp : s.p = 8) (hr : s.rs = []) {l : List Nat} (h : Rd.sz l ≤ l.length) : runs c s (l.take (Rd.sz l)) = aft c (cmp c { s with rs := l.take (Rd.sz l) }) := by
  have hb := Rd.sz_bd l
  obtain ⟨m, hm⟩ : ∃ m, Rd.sz l = m + 1 := ⟨Rd.sz l - 1, by omega⟩
  have hl : m < l.length := by omega
  have e : l.take (m + 1) = l.take m ++ [l[m]] := by rw [List.take_add_one, List.getElem?_eq_getElem hl, Option.toList_some]
  have h1 : runs c s (l.take m) = { s with rs := l.take m } := by
    rw [rd_few hp (l.take m)]
    · rw [hr, List.nil_append]
    · rw [hr, List.nil_append, List.length_take]
      by_cases h0 : m = 0
      · have := Rd.sz_bd (l.take m); simp; omega
      · rw [sz_take (by omega) (by omega)]; simp; omega
  rw [hm, e, runs_append, h1, runs_cons, runs_nil]
  unfold step
  repeat rw [if_neg (by simp only; omega)]
  rw [if_pos hp]
theorem key_take {l : List Nat} (h : 0 < l.length) : Rd.key (l.take (Rd.sz l)) = Rd.key l ∧ Rd.val (l.take (Rd.sz l)) = Rd.val l := by
  have hb := Rd.sz_bd l
  have e : Rd.sz (l.take (Rd.sz l)) = Rd.sz l := sz_take (by omega) h
  have e2 : Rd.rd (l.take (Rd.sz l)) (Rd.sz l) = Rd.rd l (Rd.sz l) := by
    unfold Rd.rd Rd.nr
    rw [e, List.take_take, Nat.min_self, Nat.min_self]
  unfold Rd.key Rd.val
  rw [e, e2]
  exact ⟨rfl, rfl⟩
/-- What was read in full is compared. -/
theorem cmp_full {s : S} {l : List Nat} (h : Rd.sz l ≤ l.length) : cmp c { s with rs := l.take (Rd.sz l) } = if Rd.key l = c.key then (if Sh.fr s.x then (fin { s with rs := l.take (Rd.sz l) } ⟨2, scell c s, s.x, Rd.val l⟩, false) else (fin { s with rs := l.take (Rd.sz l) } ⟨4, 0, 0, []⟩, false)) else ({ s with rs := l.take (Rd.sz l) }, true) := by
  have hb := Rd.sz_bd l
  obtain ⟨k1, k2⟩ := key_take (l := l) (by omega)
  unfold cmp
  have e : Rd.sz (l.take (Rd.sz l)) = Rd.sz l := sz_take (by omega) (by omega)
  rw [if_neg (by simp only [e, List.length_take]; omega)]
  simp only [k1, k2]
  rfl
/-- Two states that go on alike from a place on: the same place and word, the same group. -/
structure Alike (s t : S) : Prop where
  w : s.w = t.w
  i : s.i = t.i
  n : s.n = t.n
  g : s.g = t.g
  chk : s.chk = t.chk
end Go.Proofs.YtknefjigdlbacaaGreatDoor.Sk
namespace Go.Proofs.YtknefjigdlbacaaGreatDoor
open Go.RowKit
def Same (v : Value) (w : World) (e : Ending) (w' : World) : Prop := e = .returned v ∧ w = w'
def Gives (v : Value) (w : World) (e : Ending) (w' : World) : Prop := e = .returned v ∧ Below w.heap.size w w'
theorem info_u64 : (Tryz.prog.info? 22).map (fun i => (i.zero, i.size, i.bytes)) = some (some (.int .u64 0), 1, 8) := by kernel_rfl
theorem size_u64 : (Tryz.prog.info? 22).map (·.size) = some 1 := by kernel_rfl
end Go.Proofs.YtknefjigdlbacaaGreatDoor
