/-
  Several texts in one: Who seeks a key in a table, as plain data: where it is behind what was answered, and which act comes next. No program in it; What the texts share: posts, the size of a word; An arena as plain data: its room, the last number, the faults, and the blocks in a list by rising numbers; what each call makes of it. Plain mathematics, no program in it. By an AI agent.
-/
import Derived.Test.YtknefjigdlbacaaGreatDoorSkGAA
import Derived.Test.YtknefjigdlbacaaGreatDoorSkGAC
import Derived.Test.YtknefjigdlbacaaGreatDoorSkGAD
import Derived.Test.YtknefjigdlbacaaGreatDoorChecked
import Derived.WalkKit
import Derived.WalkSpells
import Derived.WalkLawsBesides
import Derived.WalkMore
import Derived.Below
import Derived.Lib.Hide
import Derived.IntWalk
set_option linter.unusedVariables false
set_option linter.unusedSimpArgs false
namespace Go.Proofs.YtknefjigdlbacaaGreatDoor.Sk
open Go.Proofs.YtknefjigdlbacaaGreatDoor
abbrev A := Go.Proofs.YtknefjigdlbacaaGreatDoor.Ac.A
/-- Who seeks: the site (desk, thread, threads, keep, seed), the table, the key with its hash, and the box that is laid. -/
structure C where
  d : Nat
  th : Nat
  nn : Int
  kp : Int
  sd : Nat
  b : Nat
  lg : Int
  key : List UInt8
  h : Nat
  lay : Nat
/-- What is found. -/
structure F where
  k : Nat
  c : Int
  w : Nat
  v : List UInt8
abbrev F.z : F := ⟨0, 0, 0, []⟩
/-- Where a seek is. -/
structure S where
  p : Nat
  chk : Bool
  n : Nat
  g : Int
  i : Nat
  w : Nat
  x : Nat
  cs : List Nat
  sh : Sh.S
  rs : List Nat
  f : F
variable (c : C)
def cl : Int := 128 + (c.h : Int) % 128
def gcell (s : S) : Int := Tb.gc (Tb.grp c.lg) s.g
def scell (s : S) : Int := Tb.sc (Tb.grp c.lg) s.g s.i
def clmd (s : S) : Nat := (Ct.clm s.w s.i (cl c)).toNat
def laidw : Nat := (c.lay * 8 + 1) % 18446744073709551616
def fin (s : S) (f : F) : S := { s with f := f, p := 0 }
def toG (s : S) (n : Nat) : S :=
  if 0 ≤ Rt.gp c.h c.lg n then { s with n := n, g := Rt.gp c.h c.lg n, p := 1 }
  else if c.lay = 0 then fin { s with n := n, g := Rt.gp c.h c.lg n } ⟨1, 0, 0, []⟩
  else fin { s with n := n, g := Rt.gp c.h c.lg n } ⟨5, 0, 0, []⟩
def free (s : S) : S := if c.lay = 0 then fin s ⟨1, 0, 0, []⟩ else if s.chk then { s with chk := false, p := 2, cs := [] } else { s with p := 3 }
/-- From this place on. -/
def goOn (s : S) : S :=
  if Ct.nxc s.w s.i (cl c) = 1 then free c { s with i := (Ct.nxp s.w s.i (cl c)).toNat }
  else if Ct.nxc s.w s.i (cl c) = 2 then fin { s with i := (Ct.nxp s.w s.i (cl c)).toNat } ⟨4, 0, 0, []⟩
  else if Ct.nxc s.w s.i (cl c) = 3 then { s with i := (Ct.nxp s.w s.i (cl c)).toNat, p := 5 }
  else toG c { s with i := (Ct.nxp s.w s.i (cl c)).toNat } (s.n + 1)
def hear (s : S) : S := if Cw.more s.cs then s else if Cw.told (7 * Tb.grp c.lg) s.cs then fin s ⟨6, 0, 0, []⟩ else { s with p := 3 }
def opn (s : S) : S × Bool :=
  if s.sh.p = 3 then
    (if Tg.hd (s.sh.r : Int) then ({ s with x := s.sh.r, p := 8, rs := [] }, false)
    else if s.sh.r = 5 then (fin s ⟨4, 0, 0, []⟩, false) else (s, true))
  else (s, false)
def exam (s : S) (got : Nat) : S × Bool := opn { s with p := 7, sh := Sh.new got }
def told (s : S) (got : Nat) : S × Bool :=
  if got = 0 then (if s.p = 6 then (fin s ⟨3, scell c s, laidw c, []⟩, false) else if c.lay = 0 then (fin s ⟨1, 0, 0, []⟩, false) else ({ s with p := 6 }, false))
  else exam s got
def cmp (s : S) : S × Bool :=
  if s.rs.length < Rd.sz s.rs then (s, false)
  else if Rd.key s.rs = c.key then (if Sh.fr s.x then (fin s ⟨2, scell c s, s.x, Rd.val s.rs⟩, false) else (fin s ⟨4, 0, 0, []⟩, false)) else (s, true)
def aft (x : S × Bool) : S := if x.2 then goOn c { x.1 with i := x.1.i + 1 } else x.1
/-- One answer more. -/
def step (s : S) (got : Nat) : S :=
  if s.p = 1 then goOn c { s with w := got, i := 0 }
  else if s.p = 2 then hear c { s with cs := Cw.step s.cs got }
  else if s.p = 3 then (if got = s.w then { s with w := clmd c s, p := 4 } else goOn c { s with w := got })
  else if s.p = 4 then { s with p := 6 }
  else if s.p = 5 ∨ s.p = 6 then aft c (told c s got)
  else if s.p = 7 then aft c (opn { s with sh := Sh.step s.sh got })
  else if s.p = 8 then aft c (cmp c { s with rs := s.rs ++ [got] })
  else s
/-- The act that comes next. -/
def act (s : S) : A :=
  if s.p = 1 then ⟨1, c.b, gcell c s, 0, 0⟩
  else if s.p = 2 then Cw.act c.b s.cs
  else if s.p = 3 then ⟨3, c.b, gcell c s, s.w, clmd c s⟩
  else if s.p = 4 then ⟨4, c.b, Tb.strp c.th, 0, 1⟩
  else if s.p = 5 then ⟨1, c.b, scell c s, 0, 0⟩
  else if s.p = 6 then ⟨3, c.b, scell c s, 0, laidw c⟩
  else if s.p = 7 then Sh.act c.d (3 + 2 * (c.th : Int)) c.b (scell c s) s.sh
  else if s.p = 8 then Rd.act (s.x / 8) s.rs s.rs.length
  else ⟨0, 0, 0, 0, 0⟩
def more (s : S) : Bool := s.p != 0
def zero (chk : Bool) : S := ⟨0, chk, 0, 0, 0, 0, 0, [], ⟨0, 0⟩, [], F.z⟩
def start (chk : Bool) : S := toG c (zero chk) 0
def run (chk : Bool) (l : List Nat) : S := l.foldl (step c) (start c chk)
/-- What a seek may be. -/
structure Ok : Prop where
  th : c.th ≤ 63
  b : c.b < 18446744073709551616
  lg : 1 ≤ Tb.grp c.lg
  h : c.h < 18446744073709551616
  lay : c.lay < 18446744073709551616
/-- What a state may be. -/
structure Wf (s : S) : Prop where
  p : s.p ≤ 8
  w : s.w < 18446744073709551616
  x : s.x < 18446744073709551616
  r : s.sh.r < 18446744073709551616
  i : s.i ≤ 8
  fz : s.p ≠ 0 → s.f = F.z
  fk : s.p = 0 → s.f.k ≠ 0
  fw : s.f.w < 18446744073709551616
  n : s.n ≤ Tb.grp c.lg
  nl : s.p ≠ 0 → s.n < Tb.grp c.lg
  g : s.p ≠ 0 → 0 ≤ s.g ∧ s.g < Tb.grp c.lg
  i8 : s.p ≠ 0 → s.p ≠ 1 → s.i < 8
  ask : s.p = 2 → s.cs.length < 4
  shi : s.p = 7 → 1 ≤ s.sh.p ∧ s.sh.p ≤ 2
  rd : s.p = 8 → s.rs.length < Rd.sz s.rs ∧ ∀ y ∈ s.rs, y < 18446744073709551616
theorem grp_eq (l : Int) : Rt.grp l = Tb.grp l := rfl
theorem cl_bd (h : c.h < 18446744073709551616) : 128 ≤ cl c ∧ cl c ≤ 255 := by unfold cl; omega
theorem nx_small (x a k : Int) : Ct.nxc x a k ≠ 0 → Ct.nxp x a k < 8 := by
  intro h
  apply Decidable.byContradiction
  intro h2
  exact h (by unfold Ct.nxc; rw [if_neg h2])
theorem nxp_nat (x a k : Int) : ((Ct.nxp x a k).toNat : Int) = Ct.nxp x a k := Int.toNat_of_nonneg (Ct.nxp_bd x a k).1
theorem clmd_bd {c : C} {s : S} (hw : s.w < 18446744073709551616) : clmd c s < 18446744073709551616 := by
  have := Ct.clm_bd (x := (s.w : Int)) s.i (cl c) (by omega) (by omega)
  unfold clmd; omega
theorem clmd_int {c : C} {s : S} (hw : s.w < 18446744073709551616) : ((clmd c s : Nat) : Int) = Ct.clm s.w s.i (cl c) := by
  have := Ct.clm_bd (x := (s.w : Int)) s.i (cl c) (by omega) (by omega)
  unfold clmd; omega
theorem laidw_bd : laidw c < 18446744073709551616 := Nat.mod_lt _ (by decide)
/-- What goOn wants. -/
structure Wg (s : S) : Prop where
  w : s.w < 18446744073709551616
  x : s.x < 18446744073709551616
  r : s.sh.r < 18446744073709551616
  f : s.f = F.z
  n : s.n < Tb.grp c.lg
  g : 0 ≤ s.g ∧ s.g < Tb.grp c.lg
variable {c}
theorem wf_fin {s : S} {f : F} (h : Wg c s ∨ (s.w < 18446744073709551616 ∧ s.x < 18446744073709551616 ∧ s.sh.r < 18446744073709551616 ∧ s.n ≤ Tb.grp c.lg)) (hi : s.i ≤ 8) (hf : f.k ≠ 0) (hw : f.w < 18446744073709551616) : Wf c (fin s f) := by
  have h' : s.w < 18446744073709551616 ∧ s.x < 18446744073709551616 ∧ s.sh.r < 18446744073709551616 ∧ s.n ≤ Tb.grp c.lg := by
    rcases h with h | h
    · exact ⟨h.w, h.x, h.r, by have := h.n; omega⟩
    · exact h
  constructor <;> simp only [fin] <;> (try omega)
  all_goals first | exact hf | (intro e; omega) | exact fun _ => hf | skip
theorem wf_toG {s : S} (ho : Ok c) (hw : s.w < 18446744073709551616) (hx : s.x < 18446744073709551616) (hr : s.sh.r < 18446744073709551616) (hf : s.f = F.z) (hi : s.i ≤ 8) {n : Nat} (hn : n ≤ Tb.grp c.lg) : Wf c (toG c s n) := by
  unfold toG
  split
  · rename_i hg
    have hn2 : n < Tb.grp c.lg := by
      apply Decidable.byContradiction
      intro h2
      rw [Rt.gp_out (.inr (by rw [grp_eq]; omega))] at hg
      omega
    have e := Rt.gp_in (h := c.h) (log := c.lg) (i := n) (by rw [grp_eq]; exact hn2)
    have l := Rt.gat_lt (s := c.h / 128) (n := Rt.grp c.lg) (i := n) (by rw [grp_eq]; omega)
    have l2 := grp_eq c.lg
    constructor <;> (try simp only []) <;> (try omega)
    all_goals first | exact fun _ => hf | (rw [hf]; decide) | skip
  · split
    · exact wf_fin (.inr ⟨hw, hx, hr, hn⟩) hi (by simp) (by simp)
    · exact wf_fin (.inr ⟨hw, hx, hr, hn⟩) hi (by simp) (by simp)
theorem wf_free {s : S} (h : Wg c s) (hi : s.i < 8) : Wf c (free c s) := by
  obtain ⟨hw, hx, hr, hf, hn, hg⟩ := h
  unfold free
  split
  · exact wf_fin (.inl ⟨hw, hx, hr, hf, hn, hg⟩) (by omega) (by simp) (by simp)
  · split
    · constructor <;> (try simp only []) <;> (try omega)
      all_goals first | exact fun _ => hf | (rw [hf]; decide) | (intro _; exact hg) | (simp; done) | skip
    · constructor <;> (try simp only []) <;> (try omega)
      all_goals first | exact fun _ => hf | (rw [hf]; decide) | (intro _; exact hg) | (simp; done) | skip
theorem wf_goOn {s : S} (ho : Ok c) (h : Wg c s) : Wf c (goOn c s) := by
  have hb := Ct.nxp_bd s.w s.i (cl c)
  have hs := nx_small s.w s.i (cl c)
  have hN := nxp_nat s.w s.i (cl c)
  obtain ⟨hw, hx, hr, hf, hn, hg⟩ := h
  have hg2 : ∀ i, Wg c { s with i := i } := fun i => ⟨hw, hx, hr, hf, hn, hg⟩
  unfold goOn
  split
  · exact wf_free (s := { s with i := (Ct.nxp s.w s.i (cl c)).toNat }) (hg2 _) (by have := hs (by omega); show (Ct.nxp s.w s.i (cl c)).toNat < 8; omega)
  · split
    · exact wf_fin (s := { s with i := (Ct.nxp s.w s.i (cl c)).toNat }) (.inl (hg2 _)) (by show (Ct.nxp s.w s.i (cl c)).toNat ≤ 8; omega) (by simp) (by simp)
    · split
      · have := hs (by omega)
        constructor <;> (try simp only []) <;> (try omega)
        all_goals first | exact fun _ => hf | (rw [hf]; decide) | (intro _; exact hg) | skip
      · exact wf_toG (s := { s with i := (Ct.nxp s.w s.i (cl c)).toNat }) ho hw hx hr hf (by show (Ct.nxp s.w s.i (cl c)).toNat ≤ 8; omega) (by omega)
theorem wf_wg {s : S} (h : Wf c s) (hp : s.p ≠ 0) : Wg c s := ⟨h.w, h.x, h.r, h.fz hp, h.nl hp, h.g hp⟩
theorem sh_told (v : Nat) (b : Bool) : (Sh.told v b).p ≠ 3 → (Sh.told v b).p = 1 := by cases b <;> simp [Sh.told]
/-- Behind the slot was told, or the shield: the state, and whether it goes on behind this place. -/
structure Wt (x : S × Bool) : Prop where
  no : x.2 = false → Wf c x.1
  yes : x.2 = true → Wg c x.1
theorem wt_opn {s : S} (h : Wg c s) (hp : s.p = 7) (hi : s.i < 8) (hs : 1 ≤ s.sh.p ∧ s.sh.p ≤ 3) : @Wt c (opn s) := by
  have h' := h
  obtain ⟨hw, hx, hr, hf, hn, hg⟩ := h
  unfold opn
  split
  · split
    · refine ⟨fun _ => ?_, fun e => by cases e⟩
      have := Rd.sz_bd []
      constructor <;> (try simp only []) <;> (try omega)
      all_goals first | exact fun _ => hf | (rw [hf]; decide) | (intro _; exact hg) | (intro _; refine ⟨?_, fun y hy => (by cases hy)⟩; simp only [List.length_nil]; omega) | skip
    · split
      · exact ⟨fun _ => wf_fin (.inl h') (by omega) (by simp) (by simp), fun e => by cases e⟩
      · exact ⟨fun e => (by cases e), fun _ => h'⟩
  · refine ⟨fun _ => ?_, fun e => by cases e⟩
    constructor <;> (try simp only []) <;> (try omega)
    all_goals first | exact fun _ => hf | (rw [hf]; decide) | (intro _; exact hg) | skip
theorem wt_told {s : S} (h : Wg c s) (hp : s.p = 5 ∨ s.p = 6) (hi : s.i < 8) {got : Nat} (hgot : got < 18446744073709551616) : @Wt c (told c s got) := by
  have h' := h
  obtain ⟨hw, hx, hr, hf, hn, hg⟩ := h
  unfold told
  split
  · split
    · exact ⟨fun _ => wf_fin (.inl h') (by omega) (by simp) (laidw_bd c), fun e => by cases e⟩
    · split
      · exact ⟨fun _ => wf_fin (.inl h') (by omega) (by simp) (by simp), fun e => by cases e⟩
      · refine ⟨fun _ => ?_, fun e => by cases e⟩
        constructor <;> (try simp only []) <;> (try omega)
        all_goals first | exact fun _ => hf | (rw [hf]; decide) | (intro _; exact hg) | skip
  · unfold exam
    refine wt_opn (s := { s with p := 7, sh := Sh.new got }) ⟨hw, hx, ?_, hf, hn, hg⟩ rfl hi (Sh.new_p got)
    simp only [Sh.new, Sh.told]; exact hgot
theorem wt_cmp {s : S} (h : Wg c s) (hp : s.p = 8) (hi : s.i < 8) (hr8 : ∀ y ∈ s.rs, y < 18446744073709551616) : @Wt c (cmp c s) := by
  have h' := h
  obtain ⟨hw, hx, hr, hf, hn, hg⟩ := h
  unfold cmp
  split
  · rename_i hl
    refine ⟨fun _ => ?_, fun e => by cases e⟩
    constructor <;> (try simp only []) <;> (try omega)
    all_goals first | exact fun _ => hf | (rw [hf]; decide) | (intro _; exact hg) | exact fun _ => ⟨hl, hr8⟩ | skip
  · split
    · split
      · exact ⟨fun _ => wf_fin (.inl h') (by omega) (by simp) hx, fun e => by cases e⟩
      · exact ⟨fun _ => wf_fin (.inl h') (by omega) (by simp) (by simp), fun e => by cases e⟩
    · exact ⟨fun e => (by cases e), fun _ => h'⟩
theorem wf_aft {x : S × Bool} (ho : Ok c) (h : @Wt c x) : Wf c (aft c x) := by
  unfold aft
  split
  · rename_i e
    obtain ⟨hw, hx, hr, hf, hn, hg⟩ := h.yes e
    exact wf_goOn ho ⟨hw, hx, hr, hf, hn, hg⟩
  · rename_i e
    exact h.no (by simpa using e)
/-- A state that has not ended lies ahead of the last group. -/
theorem wf_step {s : S} (ho : Ok c) (h : Wf c s) {got : Nat} (hgot : got < 18446744073709551616) : Wf c (step c s got) := by
  by_cases hp : s.p = 0
  · unfold step
    repeat rw [if_neg (by omega)]
    exact h
  · have hg := wf_wg h hp
    have hg' := hg
    obtain ⟨hw, hx, hr, hf, hn, hgg⟩ := hg
    have hi := h.i8 hp
    unfold step
    split
    · exact wf_goOn ho ⟨hgot, hx, hr, hf, hn, hgg⟩
    · split
      · have h4 := h.ask (by assumption)
        have hi := hi (by omega)
        unfold hear
        split
        · rename_i hm
          constructor <;> (try simp only []) <;> (try omega)
          all_goals first | exact fun _ => hf | (rw [hf]; decide) | (intro _; exact hgg) | skip
          intro _
          simpa [Cw.more] using hm
        · split
          · exact wf_fin (.inl ⟨hw, hx, hr, hf, hn, hgg⟩) (by simp only; omega) (by simp) (by simp)
          · constructor <;> (try simp only []) <;> (try omega)
            all_goals first | exact fun _ => hf | (rw [hf]; decide) | (intro _; exact hgg) | skip
      · split
        · have hi := hi (by omega)
          split
          · have := clmd_bd (c := c) (s := s) hw
            constructor <;> (try simp only []) <;> (try omega)
            all_goals first | exact fun _ => hf | (rw [hf]; decide) | (intro _; exact hgg) | skip
          · exact wf_goOn ho ⟨hgot, hx, hr, hf, hn, hgg⟩
        · split
          · have hi := hi (by omega)
            constructor <;> (try simp only []) <;> (try omega)
            all_goals first | exact fun _ => hf | (rw [hf]; decide) | (intro _; exact hgg) | skip
          · split
            · exact wf_aft ho (wt_told hg' (by assumption) (hi (by omega)) hgot)
            · split
              · have hi := hi (by omega)
                have hs := h.shi (by assumption)
                exact wf_aft ho (wt_opn ⟨hw, hx, Sh.step_r hr hgot, hf, hn, hgg⟩ (by assumption) hi (Sh.step_p ⟨hs.1, by omega⟩ got))
              · split
                · have hi := hi (by omega)
                  have hs := h.rd (by assumption)
                  refine wf_aft ho (wt_cmp ⟨hw, hx, hr, hf, hn, hgg⟩ (by assumption) hi ?_)
                  intro y hy
                  rcases List.mem_append.1 hy with hy | hy
                  · exact hs.2 y hy
                  · rw [List.mem_singleton.1 hy]; exact hgot
                · exact h
end Go.Proofs.YtknefjigdlbacaaGreatDoor.Sk
namespace Go.Proofs.YtknefjigdlbacaaGreatDoor
open Go.RowKit
def Same (v : Value) (w : World) (e : Ending) (w' : World) : Prop := e = .returned v ∧ w = w'
def Gives (v : Value) (w : World) (e : Ending) (w' : World) : Prop := e = .returned v ∧ Below w.heap.size w w'
theorem info_u64 : (Tryz.prog.info? 22).map (fun i => (i.zero, i.size, i.bytes)) = some (some (.int .u64 0), 1, 8) := by kernel_rfl
theorem size_u64 : (Tryz.prog.info? 22).map (·.size) = some 1 := by kernel_rfl
end Go.Proofs.YtknefjigdlbacaaGreatDoor
namespace Go.Proofs.YtknefjigdlbacaaGreatDoor
namespace Mm
abbrev Blk := Nat × List Int
structure Mem where
  room : Nat
  last : Nat
  faults : Nat
  L : List Blk
def used : List Blk → Nat
  | [] => 0
  | b :: r => b.2.length + used r
def get : List Blk → Nat → Option (List Int)
  | [], _ => none
  | b :: r, n => if b.1 = n then some b.2 else get r n
def del : List Blk → Nat → List Blk
  | [], _ => []
  | b :: r, n => if b.1 = n then del r n else b :: del r n
def put : List Blk → Nat → Nat → Int → List Blk
  | [], _, _, _ => []
  | b :: r, n, i, v => (if b.1 = n then (b.1, b.2.set i v) else b) :: put r n i v
/-- Rising numbers, from above lo up to hi. -/
def Up (lo hi : Nat) : List Blk → Prop
  | [] => True
  | b :: r => lo < b.1 ∧ b.1 ≤ hi ∧ Up b.1 hi r
def Mem.alloc (S : Mem) (n : Nat) : Mem := { S with last := S.last + 1, L := S.L ++ [(S.last + 1, List.replicate n 0)] }
def Mem.free (S : Mem) (b : Nat) : Mem := { S with L := del S.L b }
def Mem.fault (S : Mem) : Mem := { S with faults := S.faults + 1 }
def Mem.put (S : Mem) (b i : Nat) (v : Int) : Mem := { S with L := Mm.put S.L b i v }
structure Good (S : Mem) : Prop where
  r1 : 1 ≤ S.room
  r2 : S.room ≤ 65536
  up : Up 0 S.last S.L
  fits : used S.L ≤ S.room
  full : ∀ b ∈ S.L, 1 ≤ b.2.length
theorem Up.mem : ∀ {l : List Blk} {lo hi : Nat}, Up lo hi l → ∀ b ∈ l, lo < b.1 ∧ b.1 ≤ hi
  | c :: r, lo, hi, h, b, hb => by
    rcases List.mem_cons.1 hb with rfl | hb
    · exact ⟨h.1, h.2.1⟩
    · have := Up.mem h.2.2 b hb
      have := h.1
      omega
theorem Up.lo : ∀ {l : List Blk} {lo lo' hi : Nat}, Up lo hi l → lo' ≤ lo → Up lo' hi l
  | [], _, _, _, _, _ => trivial
  | _ :: _, _, _, _, h, hl => ⟨by have := h.1; omega, h.2⟩
theorem Up.hi : ∀ {l : List Blk} {lo hi hi' : Nat}, Up lo hi l → hi ≤ hi' → Up lo hi' l
  | [], _, _, _, _, _ => trivial
  | _ :: _, _, _, _, h, hl => ⟨h.1, by have := h.2.1; omega, h.2.2.hi hl⟩
theorem get_some_mem : ∀ {l : List Blk} {n : Nat} {ws : List Int}, get l n = some ws → (n, ws) ∈ l
  | b :: r, n, ws, h => by
    unfold get at h
    split at h
    · rename_i e
      cases h
      subst e
      exact List.mem_cons_self
    · exact List.mem_cons_of_mem _ (get_some_mem h)
theorem get_none : ∀ {l : List Blk} {n : Nat}, get l n = none → ∀ b ∈ l, b.1 ≠ n
  | c :: r, n, h, b, hb => by
    unfold get at h
    split at h
    · cases h
    · rcases List.mem_cons.1 hb with rfl | hb
      · assumption
      · exact get_none h b hb
theorem get_of_mem : ∀ {l : List Blk} {lo hi : Nat}, Up lo hi l → ∀ b ∈ l, get l b.1 = some b.2
  | c :: r, lo, hi, h, b, hb => by
    unfold get
    rcases List.mem_cons.1 hb with rfl | hb
    · simp
    · have := (h.2.2.mem b hb).1
      rw [if_neg (by omega)]
      exact get_of_mem h.2.2 b hb
theorem get_none_of : ∀ {l : List Blk} {n : Nat}, (∀ b ∈ l, b.1 ≠ n) → get l n = none
  | [], _, _ => rfl
  | c :: r, n, h => by
    unfold get
    rw [if_neg (h c List.mem_cons_self)]
    exact get_none_of fun b hb => h b (List.mem_cons_of_mem _ hb)
theorem mem_del : ∀ {l : List Blk} {n : Nat} {b : Blk}, b ∈ del l n ↔ b ∈ l ∧ b.1 ≠ n
  | [], n, b => by simp [del]
  | c :: r, n, b => by
    unfold del
    split
    · rename_i e
      rw [mem_del]
      constructor
      · exact fun h => ⟨List.mem_cons_of_mem _ h.1, h.2⟩
      · rintro ⟨h1, h2⟩
        rcases List.mem_cons.1 h1 with rfl | h1
        · exact absurd e h2
        · exact ⟨h1, h2⟩
    · rename_i e
      simp only [List.mem_cons, mem_del]
      constructor
      · rintro (rfl | h)
        · exact ⟨.inl rfl, e⟩
        · exact ⟨.inr h.1, h.2⟩
      · rintro ⟨rfl | h1, h2⟩
        · exact .inl rfl
        · exact .inr ⟨h1, h2⟩
theorem Up.del : ∀ {l : List Blk} {lo hi : Nat} (n : Nat), Up lo hi l → Up lo hi (Mm.del l n)
  | [], _, _, _, _ => trivial
  | c :: r, lo, hi, n, h => by
    unfold Mm.del
    split
    · exact (h.2.2.del n).lo (Nat.le_of_lt h.1)
    · exact ⟨h.1, h.2.1, h.2.2.del n⟩
theorem used_append : ∀ l m : List Blk, used (l ++ m) = used l + used m
  | [], m => by simp [used]
  | b :: r, m => by simp [used, used_append r m]; omega
theorem used_del : ∀ {l : List Blk} {lo hi n : Nat} {ws : List Int}, Up lo hi l → get l n = some ws → used (del l n) + ws.length = used l
  | b :: r, lo, hi, n, ws, h, hg => by
    unfold get at hg
    split at hg
    · rename_i e
      cases hg
      have : del r n = r := by
        have hm := h.2.2.mem
        clear h
        induction r with
        | nil => rfl
        | cons c r ih =>
          have h0 := (hm c List.mem_cons_self).1
          unfold del
          rw [if_neg (by omega), ih fun b hb => hm b (List.mem_cons_of_mem _ hb)]
      unfold del
      rw [if_pos e, this]
      simp [used]; omega
    · rename_i e
      unfold del
      rw [if_neg e]
      have := used_del h.2.2 hg
      simp [used]; omega
theorem used_del_none : ∀ {l : List Blk} {n : Nat}, get l n = none → del l n = l
  | [], n, _ => rfl
  | b :: r, n, h => by
    unfold get at h
    split at h
    · cases h
    · rename_i e
      unfold del
      rw [if_neg e, used_del_none h]
theorem put_keys : ∀ (l : List Blk) (n i : Nat) (v : Int), (put l n i v).map (·.1) = l.map (·.1)
  | [], _, _, _ => rfl
  | b :: r, n, i, v => by
    simp only [put, List.map_cons, put_keys r n i v]
    split <;> rfl
theorem used_put : ∀ (l : List Blk) (n i : Nat) (v : Int), used (put l n i v) = used l
  | [], _, _, _ => rfl
  | b :: r, n, i, v => by
    simp only [put, used, used_put r n i v]
    split <;> simp
theorem Up.put : ∀ {l : List Blk} {lo hi : Nat} (n i : Nat) (v : Int), Up lo hi l → Up lo hi (Mm.put l n i v)
  | [], _, _, _, _, _, _ => trivial
  | b :: r, lo, hi, n, i, v, h => by
    unfold Mm.put
    split
    · exact ⟨h.1, h.2.1, h.2.2.put n i v⟩
    · exact ⟨h.1, h.2.1, h.2.2.put n i v⟩
theorem mem_put : ∀ {l : List Blk} {n i : Nat} {v : Int} {b : Blk}, b ∈ put l n i v → (b.1 ≠ n ∧ b ∈ l) ∨ (b.1 = n ∧ ∃ ws, (n, ws) ∈ l ∧ b.2 = ws.set i v)
  | c :: r, n, i, v, b, h => by
    unfold put at h
    rcases List.mem_cons.1 h with h | h
    · split at h
      · rename_i e
        subst h
        exact .inr ⟨e, c.2, by rw [← e]; exact List.mem_cons_self, rfl⟩
      · rename_i e
        subst h
        exact .inl ⟨e, List.mem_cons_self⟩
    · rcases mem_put h with ⟨h1, h2⟩ | ⟨h1, ws, h2, h3⟩
      · exact .inl ⟨h1, List.mem_cons_of_mem _ h2⟩
      · exact .inr ⟨h1, ws, List.mem_cons_of_mem _ h2, h3⟩
theorem get_put_same : ∀ {l : List Blk} {n : Nat} (i : Nat) (v : Int) {ws : List Int}, get l n = some ws → get (put l n i v) n = some (ws.set i v)
  | b :: r, n, i, v, ws, h => by
    unfold get at h
    split at h
    · rename_i e
      cases h
      simp [put, get, e]
    · rename_i e
      simp [put, get, e]
      exact get_put_same i v h
theorem get_put_none : ∀ {l : List Blk} {n : Nat} (m i : Nat) (v : Int), get l n = none → get (put l m i v) n = none
  | [], _, _, _, _, _ => rfl
  | b :: r, n, m, i, v, h => by
    unfold get at h
    split at h
    · cases h
    · rename_i e
      have := get_put_none m i v h
      by_cases em : b.1 = m <;> simp_all [put, get]
theorem get_put_other : ∀ (l : List Blk) {n m : Nat} (i : Nat) (v : Int), n ≠ m → get (put l m i v) n = get l n
  | [], _, _, _, _, _ => rfl
  | b :: r, n, m, i, v, h => by
    have := get_put_other r i v h
    by_cases em : b.1 = m
    · by_cases en : b.1 = n
      · omega
      · have e2 : ¬ m = n := by omega
        simp [put, get, em, e2, this]
    · by_cases en : b.1 = n <;> simp_all [put, get]
theorem get_append : ∀ (l m : List Blk) (n : Nat), get (l ++ m) n = (get l n).or (get m n)
  | [], _, _ => by simp [get]
  | b :: r, m, n => by
    by_cases e : b.1 = n <;> simp [get, e, get_append r m n]
theorem get_del : ∀ (l : List Blk) (n m : Nat), get (del l n) m = if m = n then none else get l m
  | [], n, m => by simp [del, get]
  | b :: r, n, m => by
    have ih := get_del r n m
    by_cases e : b.1 = n
    · rw [del, if_pos e, ih]
      by_cases e2 : m = n
      · rw [if_pos e2, if_pos e2]
      · rw [if_neg e2, if_neg e2, get, if_neg (by omega)]
    · rw [del, if_neg e, get, ih, get]
      by_cases e2 : m = n
      · rw [if_pos e2, if_pos e2, if_neg (by omega)]
      · rw [if_neg e2, if_neg e2]
theorem Up.snoc : ∀ {l : List Blk} {lo hi : Nat} (ws : List Int), Up lo hi l → lo ≤ hi → Up lo (hi + 1) (l ++ [(hi + 1, ws)])
  | [], lo, hi, ws, _, h => ⟨Nat.lt_succ_of_le h, Nat.le_refl _, trivial⟩
  | b :: r, lo, hi, ws, h, hl => ⟨h.1, by have := h.2.1; omega, h.2.2.snoc ws h.2.1⟩
theorem used_len : ∀ {l : List Blk} {n : Nat} {ws : List Int}, get l n = some ws → ws.length ≤ used l
  | b :: r, n, ws, h => by
    unfold get at h
    split at h
    · cases h; simp [used]
    · have := used_len h; simp [used]; omega
theorem Good.alloc {S : Mem} (h : Good S) {n : Nat} (h1 : 1 ≤ n) (hn : n ≤ S.room - used S.L) : Good (S.alloc n) := by
  have := h.fits
  refine ⟨h.r1, h.r2, h.up.snoc _ (Nat.zero_le _), ?_, fun b hb => ?_⟩
  · show used (S.L ++ _) ≤ S.room
    rw [used_append]; simp [used]; omega
  · rcases List.mem_append.1 hb with hb | hb
    · exact h.full b hb
    · simp at hb; subst hb; simpa using h1
theorem Good.free {S : Mem} (h : Good S) {b : Nat} {ws : List Int} (hg : get S.L b = some ws) : Good (S.free b) := by
  have := h.fits
  have h2 := used_del h.up hg
  exact ⟨h.r1, h.r2, h.up.del b, by show used (del S.L b) ≤ S.room; omega, fun c hc => h.full c (mem_del.1 hc).1⟩
theorem Good.fault {S : Mem} (h : Good S) : Good S.fault := ⟨h.r1, h.r2, h.up, h.fits, h.full⟩
theorem Good.put {S : Mem} (h : Good S) (b i : Nat) (v : Int) : Good (S.put b i v) := by
  refine ⟨h.r1, h.r2, h.up.put b i v, by show used (Mm.put S.L b i v) ≤ S.room; rw [used_put]; exact h.fits, fun c hc => ?_⟩
  rcases mem_put hc with ⟨_, h2⟩ | ⟨_, ws, h2, h3⟩
  · exact h.full c h2
  · rw [h3, List.length_set]; exact h.full _ h2
/-- What is wrong with a cell. -/
def wrong (S : Mem) (b : Nat) (i : Int) : Int :=
  match get S.L b with
  | none => 13
  | some ws => if 0 ≤ i ∧ i < ws.length then 0 else 14
theorem new_get (S : Mem) (h : Good S) : get S.L (S.last + 1) = none := get_none_of fun b hb => by have := (h.up.mem b hb).2; omega
end Mm
end Go.Proofs.YtknefjigdlbacaaGreatDoor
