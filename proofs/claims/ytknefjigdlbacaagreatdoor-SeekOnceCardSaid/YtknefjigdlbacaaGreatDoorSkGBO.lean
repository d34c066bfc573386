/-
  Several texts in one: Several seeks on one table: what holds of all of them, between any two acts. Plain mathematics; What seeks find that have ended: one slot a key, one lays it; a look-up on a table that rests. Plain mathematics. By an AI agent.
-/
import Derived.Test.YtknefjigdlbacaaGreatDoorSkGBK
set_option linter.unusedVariables false
set_option linter.unusedSimpArgs false
namespace Go.Proofs.YtknefjigdlbacaaGreatDoor.Sk
open Go.Proofs.YtknefjigdlbacaaGreatDoor Ln
/-- Who holds a place: he has claimed it, or is about to lay there, or has laid there. -/
def Holds (s : S) : Prop := s.p = 4 ∨ s.p = 6 ∨ (s.p = 0 ∧ s.f.k = 3)
def At (c : C) (s : S) (g j : Nat) : Prop := gn c s.n = g ∧ s.i = j
/-- What holds of R seeks and their table of G groups. -/
structure Gi (B : Nat → List Nat) (G : Nat) (t : Tv) (R : Nat) (c : Nat → C) (s : Nat → S) : Prop where
  ok : ∀ r, r < R → Ok (c r)
  grp : ∀ r, r < R → Tb.grp (c r).lg = G
  lay : ∀ r, r < R → (c r).lay ≠ 0 → laidw (c r) % 8 = 1 ∧ 8 ≤ laidw (c r) ∧ Rd.sz (B (laidw (c r) / 8)) = (B (laidw (c r) / 8)).length ∧ Own B (c r) (laidw (c r))
  wf : ∀ r, r < R → Wf (c r) (s r)
  li : ∀ r, r < R → Li B t (c r) (s r)
  ci : Ci t
  held : ∀ g j : Nat, g < G → j < 8 → byt (t.w g) j ≠ 0 → ∃ r, r < R ∧ Holds (s r) ∧ At (c r) (s r) g j
  laid : ∀ g j : Nat, j < 8 → t.l g j ≠ 0 → ∃ r, r < R ∧ (s r).p = 0 ∧ (s r).f.k = 3 ∧ At (c r) (s r) g j
def upd (s : Nat → S) (r : Nat) (x : S) : Nat → S := fun k => if k = r then x else s k
section
variable {B : Nat → List Nat} {G : Nat} {t : Tv} {R : Nat} {c : Nat → C} {s : Nat → S}
theorem fin3 {c : C} {s : S} (h : Fin B t c s) (hk : s.f.k = 3) : c.lay ≠ 0 ∧ s.n < Tb.grp c.lg ∧ s.i < 8 ∧ Past B t c s.n s.i ∧ byt (t.w (gn c s.n)) s.i = cl c ∧ t.l (gn c s.n) s.i = laidw c ∧ s.f = ⟨3, Tb.sc (Tb.grp c.lg) (gn c s.n : Nat) s.i, laidw c, []⟩ := by
  rcases h with ⟨h1, -⟩ | ⟨x, h0, h1, h2, h3, h4, h5, h6, h7⟩ | h | ⟨h1, -⟩
  · rw [h1] at hk; cases hk
  · rw [h7] at hk; cases hk
  · exact h
  · rw [h1] at hk; cases hk
theorem Gi.word (h : Gi B G t R c s) {g j : Nat} (hj : j < 8) (h0 : t.l g j ≠ 0) : ∃ r, r < R ∧ (c r).lay ≠ 0 ∧ (s r).p = 0 ∧ (s r).f.k = 3 ∧ At (c r) (s r) g j ∧ t.l g j = laidw (c r) := by
  obtain ⟨r, hr, h1, h2, h3⟩ := h.laid g j hj h0
  obtain ⟨a, -, -, -, -, b, -⟩ := fin3 ((h.li r hr).fin h1) h2
  have h3' := h3
  obtain ⟨e1, e2⟩ := h3
  rw [e1, e2] at b
  exact ⟨r, hr, a, h1, h2, h3', b⟩
theorem Gi.si (h : Gi B G t R c s) : Si B t := fun g j hj h0 => by
  obtain ⟨r, hr, a, -, -, -, b⟩ := h.word hj h0
  rw [b]
  exact ⟨(h.lay r hr a).1, (h.lay r hr a).2.1, (h.lay r hr a).2.2.1⟩
theorem laid_pos (h : Gi B G t R c s) {r : Nat} (hr : r < R) : (c r).lay ≠ 0 → laidw (c r) ≠ 0 := fun hl => by have := (h.lay r hr hl).2.1; omega
theorem upd_same (s : Nat → S) (r : Nat) (x : S) : upd s r x r = x := if_pos rfl
theorem upd_ne {s : Nat → S} {r k : Nat} {x : S} (h : k ≠ r) : upd s r x k = s k := if_neg h
/-- The part behind, of who holds a place. -/
theorem step_4 {c : C} {s : S} (h : s.p = 4) (v : Nat) : step c s v = { s with p := 6 } := by
  unfold step
  rw [if_neg (by omega), if_neg (by omega), if_neg (by omega), if_pos h]
theorem step_6 {c : C} {s : S} (h : s.p = 6) : step c s 0 = fin s ⟨3, scell c s, laidw c, []⟩ := by
  unfold step
  rw [if_neg (by omega), if_neg (by omega), if_neg (by omega), if_neg (by omega), if_pos (.inr h)]
  unfold told
  rw [if_pos rfl, if_pos h]
  rfl
theorem step_3 {c : C} {s : S} (h : s.p = 3) : step c s s.w = { s with w := clmd c s, p := 4 } := by
  unfold step
  rw [if_neg (by omega), if_neg (by omega), if_pos h, if_pos rfl]
/-- Between any two acts. -/
theorem gi_step (h : Gi B G t R c s) {r : Nat} (hr : r < R) (hp : (s r).p ≠ 0) (hz : (c r).lay = 0 → ∀ g j : Nat, g < Tb.grp (c r).lg → j < 8 → byt (t.w g) j ≠ 0 → t.l g j ≠ 0) (any : Nat) (hwf : Wf (c r) (step (c r) (s r) (ansT B t (c r) (s r) any))) :
    Gi B G (aftT t (c r) (s r)) R c (upd s r (step (c r) (s r) (ansT B t (c r) (s r) any))) ∧ Grow t (aftT t (c r) (s r)) := by
  have ho := h.ok r hr
  have hw := h.wf r hr
  have hl := h.li r hr
  obtain ⟨c0, c1⟩ := cl_bd (c r) ho.h
  have hgr := aftT_grow ho hw hl (laid_pos h hr)
  have hst := li_step ho hw hl hp h.ci h.si hz (laid_pos h hr) any
  refine ⟨⟨h.ok, h.grp, h.lay, fun k hk => ?_, fun k hk => ?_, ?_, ?_, ?_⟩, hgr⟩
  · by_cases e : k = r
    · subst e; rw [upd_same]; exact hwf
    · rw [upd_ne e]; exact h.wf k hk
  · by_cases e : k = r
    · subst e; rw [upd_same]; exact hst
    · rw [upd_ne e]; exact (h.li k hk).grow (h.ok k hk) (laid_pos h hk) (h.wf k hk) hgr
  · intro g j hj
    unfold aftT
    split
    · rename_i h3
      show byt ((if g = gn (c r) (s r).n then clmd (c r) (s r) else t.w g : Nat) : Int) j = 0 ∨ _ ≤ byt ((if g = gn (c r) (s r).n then clmd (c r) (s r) else t.w g : Nat) : Int) j
      split
      · rename_i hg
        have h8 := hw.i8 hp (by omega)
        obtain ⟨hb, -⟩ := hl.free h3.1
        rcases clmd_byt ho h8 hb with ⟨e1, e2⟩ | e
        · by_cases ej : j = (s r).i
          · subst ej; right; omega
          · rw [e2, Ct.clm_yes hb c0 c1, byt_wth hj, if_neg (by omega)]
            have := h.ci g j hj
            rw [hg, h3.2] at this
            exact this
        · have := hw.w; omega
      · exact h.ci g j hj
    · split
      · exact h.ci g j hj
      · exact h.ci g j hj
  · intro g j hg hj h0
    by_cases hb : byt (t.w g) j = 0
    · -- a new claim
      unfold aftT at h0
      split at h0
      · rename_i h3
        have h8 := hw.i8 hp (by omega)
        obtain ⟨hbs, -⟩ := hl.free h3.1
        have h0' : byt ((if g = gn (c r) (s r).n then clmd (c r) (s r) else t.w g : Nat) : Int) j ≠ 0 := h0
        split at h0'
        · rename_i hgg
          rcases clmd_byt ho h8 hbs with ⟨e1, e2⟩ | e
          · by_cases ej : j = (s r).i
            · refine ⟨r, hr, ?_, ?_⟩
              · rw [upd_same]
                left
                rw [show ansT B t (c r) (s r) any = (s r).w by unfold ansT; rw [if_pos (.inr h3.1), h3.2], step_3 h3.1]
              · rw [upd_same, show ansT B t (c r) (s r) any = (s r).w by unfold ansT; rw [if_pos (.inr h3.1), h3.2], step_3 h3.1]
                exact ⟨hgg.symm, ej.symm⟩
            · rw [e2, Ct.clm_yes hbs c0 c1, byt_wth hj, if_neg (by omega)] at h0'
              rw [hgg, h3.2] at hb
              exact absurd hb h0'
          · have := hw.w; omega
        · exact absurd hb h0'
      · split at h0
        · exact absurd hb h0
        · exact absurd hb h0
    · obtain ⟨k, hk, hh, ha⟩ := h.held g j hg hj hb
      by_cases e : k = r
      · subst e
        rcases hh with h4 | h6 | ⟨h00, -⟩
        · refine ⟨k, hk, ?_, ?_⟩
          · rw [upd_same, step_4 h4]; exact .inr (.inl rfl)
          · rw [upd_same, step_4 h4]; exact ha
        · have ev : ansT B t (c k) (s k) any = t.l (gn (c k) (s k).n) (s k).i := by unfold ansT; rw [if_neg (by omega), if_pos (.inr h6)]
          by_cases hq : t.l (gn (c k) (s k).n) (s k).i = 0
          · refine ⟨k, hk, ?_, ?_⟩
            · rw [upd_same, ev, hq, step_6 h6]; exact .inr (.inr ⟨rfl, rfl⟩)
            · rw [upd_same, ev, hq, step_6 h6]; exact ha
          · have h8 := hw.i8 hp (by omega)
            obtain ⟨k2, hk2, a1, a2, a3⟩ := h.laid _ _ h8 hq
            have hne : k2 ≠ k := fun e => by subst e; exact hp a1
            obtain ⟨b1, b2⟩ := ha
            exact ⟨k2, hk2, by rw [upd_ne hne]; exact .inr (.inr ⟨a1, a2⟩), by rw [upd_ne hne]; exact ⟨a3.1.trans b1, a3.2.trans b2⟩⟩
        · exact absurd h00 hp
      · exact ⟨k, hk, by rw [upd_ne e]; exact hh, by rw [upd_ne e]; exact ha⟩
  · intro g j hj h0
    by_cases hb : t.l g j = 0
    · unfold aftT at h0
      split at h0
      · exact absurd hb h0
      · split at h0
        · rename_i h3 h6
          have h0' : (if g = gn (c r) (s r).n ∧ j = (s r).i then laidw (c r) else t.l g j) ≠ 0 := h0
          split at h0'
          · rename_i e
            have ev : ansT B t (c r) (s r) any = 0 := by unfold ansT; rw [if_neg (by omega), if_pos (.inr h6.1), h6.2]
            refine ⟨r, hr, ?_, ?_, ?_⟩
            · rw [upd_same, ev, step_6 h6.1]; rfl
            · rw [upd_same, ev, step_6 h6.1]; rfl
            · rw [upd_same, ev, step_6 h6.1]; exact ⟨e.1.symm, e.2.symm⟩
          · exact absurd hb h0'
        · exact absurd hb h0
    · obtain ⟨k, hk, a1, a2, a3⟩ := h.laid g j hj hb
      have hne : k ≠ r := fun e => by subst e; exact hp a1
      exact ⟨k, hk, by rw [upd_ne hne]; exact a1, by rw [upd_ne hne]; exact a2, by rw [upd_ne hne]; exact a3⟩
end
end Go.Proofs.YtknefjigdlbacaaGreatDoor.Sk
set_option linter.unusedVariables false
set_option linter.unusedSimpArgs false
namespace Go.Proofs.YtknefjigdlbacaaGreatDoor.Sk
open Go.Proofs.YtknefjigdlbacaaGreatDoor Ln
/-- A seek that has found its key's slot. -/
structure Fd (B : Nat → List Nat) (t : Tv) (c : C) (s : S) (x : Nat) : Prop where
  n : s.n < Tb.grp c.lg
  i8 : s.i < 8
  past : Past B t c s.n s.i
  byt : byt (t.w (gn c s.n)) s.i = cl c
  slot : t.l (gn c s.n) s.i = x
  x0 : x ≠ 0
  own : Own B c x
  fc : s.f.c = Tb.sc (Tb.grp c.lg) (gn c s.n : Nat) s.i
  fw : s.f.w = x
section
variable {B : Nat → List Nat} {G : Nat} {t : Tv} {R : Nat} {c : Nat → C} {s : Nat → S}
/-- Numbers below R, all of them different and none of them r: fewer than R. -/
theorem few : ∀ (R : Nat) (l : List Nat), l.Nodup → (∀ x ∈ l, x < R) → l.length ≤ R
  | 0, l, _, h => by
    cases l with
    | nil => exact Nat.le_refl _
    | cons a r => exact absurd (h a List.mem_cons_self) (by omega)
  | R + 1, l, hn, h => by
    by_cases hm : R ∈ l
    · have h2 := few R (l.erase R) (hn.erase R) (fun x hx => by
        have h1 := h x (List.mem_of_mem_erase hx)
        have : x ≠ R := fun e => by subst e; exact hn.not_mem_erase hx
        omega)
      rw [List.length_erase_of_mem hm] at h2
      omega
    · have := few R l hn (fun x hx => by
        have h1 := h x hx
        have : x ≠ R := fun e => by subst e; exact hm hx
        omega)
      omega
theorem few_but {R r : Nat} (hr : r < R) (l : List Nat) (hn : l.Nodup) (h : ∀ x ∈ l, x < R ∧ x ≠ r) : l.length + 1 ≤ R := by
  have := few R (r :: l) (List.nodup_cons.2 ⟨fun hm => (h r hm).2 rfl, hn⟩) (fun x hx => by
    rcases List.mem_cons.1 hx with rfl | hx
    · exact hr
    · exact (h x hx).1)
  simpa using this
theorem gn_inj {c : C} {m m' : Nat} (h0 : 0 ≤ c.lg) (h1 : c.lg ≤ 9) (hm : m < Tb.grp c.lg) (hm' : m' < Tb.grp c.lg) (h : gn c m = gn c m') : m = m' := by
  unfold gn at h
  rw [← grp_eq] at hm hm' h
  rw [Rt.grp_in h0 h1] at hm hm' h
  exact Rt.gat_inj hm hm' h
theorem gn_lt {c : C} {m : Nat} (h : 0 < Tb.grp c.lg) : gn c m < Tb.grp c.lg := Rt.gat_lt h
/-- There is always room. -/
theorem full_no (h : Gi B G t R c s) (hR : R ≤ 8 * G) {r : Nat} (hr : r < R) (h0 : 0 ≤ (c r).lg) (h9 : (c r).lg ≤ 9) (hp : (s r).p = 0) : (s r).f.k ≠ 5 := by
  intro hk
  have hpast : Past B t (c r) G 0 := by
    rcases (h.li r hr).fin hp with ⟨h1, -⟩ | ⟨x, -, -, -, -, -, -, -, h1⟩ | ⟨-, -, -, -, -, -, h1⟩ | ⟨-, -, h1⟩
    · rw [h1] at hk; cases hk
    · rw [h1] at hk; cases hk
    · rw [h1] at hk; cases hk
    · rw [h.grp r hr] at h1; exact h1
  have hnot : ¬ Holds (s r) := by
    rintro (e | e | ⟨-, e⟩) <;> omega
  have hG : 0 < G := by omega
  have key : ∀ k, ∃ q, k < 8 * G → q < R ∧ q ≠ r ∧ At (c q) (s q) (gn (c r) (k / 8)) (k % 8) := fun k => by
    by_cases hk8 : k < 8 * G
    · obtain ⟨q, a, b, d⟩ := h.held (gn (c r) (k / 8)) (k % 8) (by have := gn_lt (c := c r) (m := k / 8) (by rw [h.grp r hr]; exact hG); rw [h.grp r hr] at this; exact this) (by omega) (hpast.1 (k / 8) (by omega) (k % 8) (by omega)).1
      exact ⟨q, fun _ => ⟨a, fun e => hnot (e ▸ b), d⟩⟩
    · exact ⟨0, fun e => absurd e hk8⟩
  obtain ⟨f, hf⟩ := Classical.axiomOfChoice key
  have hl := few_but hr ((List.range (8 * G)).map f) (by
    rw [List.Nodup, List.pairwise_map]
    refine List.Pairwise.imp_of_mem ?_ (List.nodup_range (n := 8 * G))
    intro a b ha hb hab e
    have ha' : a < 8 * G := by simpa using ha
    have hb' : b < 8 * G := by simpa using hb
    obtain ⟨-, -, a1, a2⟩ := hf a ha'
    obtain ⟨-, -, b1, b2⟩ := hf b hb'
    rw [e] at a1 a2
    have := gn_inj h0 h9 (by rw [h.grp r hr]; omega) (by rw [h.grp r hr]; omega) (a1.symm.trans b1)
    omega) (fun x hx => by
    obtain ⟨k, hk, rfl⟩ := List.mem_map.1 hx
    have := hf k (by simpa using hk)
    exact ⟨this.1, this.2.1⟩)
  rw [List.length_map, List.length_range] at hl
  omega
/-- Who lays has found in the end. -/
theorem found (h : Gi B G t R c s) {r : Nat} (hr : r < R) (hp : (s r).p = 0) (hl : (c r).lay ≠ 0) (h5 : (s r).f.k ≠ 5) : ∃ x, Fd B t (c r) (s r) x ∧ ((s r).f.k = 2 ∨ (s r).f.k = 3 ∧ x = laidw (c r)) := by
  rcases (h.li r hr).fin hp with ⟨-, h1, -⟩ | ⟨x, x0, h1, h2, h3, h4, h6, h7, h8⟩ | ⟨h0, h1, h2, h3, h4, h6, h7⟩ | ⟨h1, -⟩
  · exact absurd h1 hl
  · exact ⟨x, ⟨h1, h2, h3, h4, h6, x0, h7, by rw [h8], by rw [h8]⟩, .inl (by rw [h8])⟩
  · exact ⟨laidw (c r), ⟨h1, h2, h3, h4, h6, laid_pos h hr h0, (h.lay r hr h0).2.2.2, by rw [h7], by rw [h7]⟩, .inr ⟨by rw [h7], rfl⟩⟩
  · exact absurd (by rw [h1]) h5
section
variable {c c' : C} {s s' : S} {x x' : Nat}
theorem fd_lt (h : Fd B t c s x) (h' : Fd B t c' s' x') (hk : c.key = c'.key) (hh : c.h = c'.h) (hlg : c.lg = c'.lg) : ¬ (s.n < s'.n ∨ s.n = s'.n ∧ s.i < s'.i) := by
  have eg : ∀ m, gn c m = gn c' m := fun m => by unfold gn; rw [hh, hlg]
  have ec : cl c = cl c' := by unfold cl; rw [hh]
  intro hlt
  have hpl : Pl B t c' (gn c' s.n) s.i := by
    rcases hlt with e | ⟨e, e2⟩
    · exact h'.past.1 s.n e s.i h.i8
    · rw [e]; exact h'.past.2 s.i e2
  obtain ⟨-, hpl⟩ := hpl
  rw [← eg] at hpl
  obtain ⟨-, hno⟩ := hpl (h.byt.trans ec)
  rw [h.slot] at hno
  have := h.own
  unfold Own at this hno
  exact hno (this.trans hk)
/-- Two of one key have found the same place. -/
theorem fd_same (h : Fd B t c s x) (h' : Fd B t c' s' x') (hk : c.key = c'.key) (hh : c.h = c'.h) (hlg : c.lg = c'.lg) : s.n = s'.n ∧ s.i = s'.i ∧ x = x' ∧ s.f.c = s'.f.c ∧ s.f.w = s'.f.w := by
  have a := fd_lt h h' hk hh hlg
  have b := fd_lt h' h hk.symm hh.symm hlg.symm
  have en : s.n = s'.n := by omega
  have ei : s.i = s'.i := by omega
  have eg : gn c s.n = gn c' s'.n := by unfold gn; rw [hh, hlg, en]
  have ex : x = x' := by rw [← h.slot, ← h'.slot, eg, ei]
  exact ⟨en, ei, ex, by rw [h.fc, h'.fc, eg, ei, hlg], by rw [h.fw, h'.fw, ex]⟩
/-- Two of different keys have found different cells. -/
theorem fd_other (h : Fd B t c s x) (h' : Fd B t c' s' x') (hk : c.key ≠ c'.key) (hlg : c.lg = c'.lg) : s.f.c ≠ s'.f.c := by
  intro e
  have g1 := gn_lt (c := c) (m := s.n) (by have := h.n; omega)
  have g2 := gn_lt (c := c') (m := s'.n) (by have := h'.n; omega)
  have i1 := h.i8
  have i2 := h'.i8
  rw [h.fc, h'.fc, ← hlg, Tb.sc_in (by omega) (by omega) (by omega) (by omega), Tb.sc_in (by omega) (by rw [hlg]; omega) (by omega) (by omega)] at e
  have eg : gn c s.n = gn c' s'.n := by omega
  have ei : s.i = s'.i := by omega
  have ex : x = x' := by rw [← h.slot, ← h'.slot, eg, ei]
  have a := h.own
  have b := h'.own
  subst ex
  exact hk (a.symm.trans b)
end
/-- Somebody has laid what was found, and it is his key. -/
theorem fd_laid (h : Gi B G t R c s) {c' : C} {s' : S} {x : Nat} (hf : Fd B t c' s' x) : ∃ r, r < R ∧ (c r).lay ≠ 0 ∧ (s r).p = 0 ∧ (s r).f.k = 3 ∧ (c r).key = c'.key ∧ x = laidw (c r) := by
  obtain ⟨r, hr, h1, h2, h3, -, h4⟩ := h.word hf.i8 (by rw [hf.slot]; exact hf.x0)
  rw [hf.slot] at h4
  refine ⟨r, hr, h1, h2, h3, ?_, h4⟩
  have a := (h.lay r hr h1).2.2.2
  have b := hf.own
  rw [h4] at b
  exact a.symm.trans b
/-! ### a look-up on a table that rests -/
/-- What was seen of a word is all of it. -/
def Fx (t : Tv) (c : C) (s : S) : Prop := s.p ≠ 1 → s.n < Tb.grp c.lg → s.w = t.w (gn c s.n)
theorem fx_toG {c : C} {s : S} {n : Nat} : Fx t c (toG c s n) := by
  unfold toG
  split
  · exact fun h => absurd rfl h
  · rename_i h0
    have : ¬ n < Tb.grp c.lg := fun h => by rw [Rt.gp_in (by rw [grp_eq]; exact h)] at h0; omega
    split
    · exact fun _ h => absurd h this
    · exact fun _ h => absurd h this
theorem fx_goOn {c : C} {s : S} (h : s.w = t.w (gn c s.n)) : Fx t c (goOn c s) := by
  unfold goOn
  split
  · unfold Sk.free
    split
    · exact fun _ _ => h
    · split
      · exact fun _ _ => h
      · exact fun _ _ => h
  · split
    · exact fun _ _ => h
    · split
      · exact fun _ _ => h
      · exact fx_toG
theorem fx_aft {c : C} {x : S × Bool} (h : x.1.w = t.w (gn c x.1.n)) : Fx t c (aft c x) := by
  unfold Sk.aft
  split
  · exact fx_goOn (s := { x.1 with i := x.1.i + 1 }) h
  · exact fun _ _ => h
theorem opn_wn (s : S) : (opn s).1.w = s.w ∧ (opn s).1.n = s.n := by
  unfold opn
  repeat' split
  all_goals exact ⟨rfl, rfl⟩
theorem told_wn (c : C) (s : S) (v : Nat) : (told c s v).1.w = s.w ∧ (told c s v).1.n = s.n := by
  unfold told
  split
  · repeat' split
    all_goals exact ⟨rfl, rfl⟩
  · exact opn_wn { s with p := 7, sh := Sh.new v }
theorem cmp_wn (c : C) (s : S) : (cmp c s).1.w = s.w ∧ (cmp c s).1.n = s.n := by
  unfold cmp
  repeat' split
  all_goals exact ⟨rfl, rfl⟩
theorem fx_step {c : C} {s : S} (h : Fx t c s) (hl : Li B t c s) (hw : Wf c s) (hp : s.p ≠ 0) (h0 : c.lay = 0) (any : Nat) : Fx t c (step c s (ansT B t c s any)) := by
  have hn := hw.nl hp
  have hp8 := hw.p
  have h3 : s.p ≠ 3 := fun e => (hl.free e).2 h0
  have h4 : s.p ≠ 4 := fun e => hl.lay (.inl e) h0
  have h6 : s.p ≠ 6 := fun e => hl.lay (.inr e) h0
  have h2 := hl.p2
  unfold step
  by_cases e : s.p = 1
  · rw [if_pos e]
    refine fx_goOn (s := { s with w := ansT B t c s any, i := 0 }) ?_
    show ansT B t c s any = _
    unfold ansT
    rw [if_pos (.inl e)]
  · have hx := h e hn
    rw [if_neg e, if_neg h2, if_neg h3, if_neg h4]
    split
    · refine fx_aft ?_
      obtain ⟨a, b⟩ := told_wn c s (ansT B t c s any)
      rw [a, b]; exact hx
    · split
      · refine fx_aft ?_
        obtain ⟨a, b⟩ := opn_wn { s with sh := Sh.step s.sh (ansT B t c s any) }
        rw [a, b]; exact hx
      · split
        · refine fx_aft ?_
          obtain ⟨a, b⟩ := cmp_wn c { s with rs := s.rs ++ [ansT B t c s any] }
          rw [a, b]; exact hx
        · exact h
/-- A key that was found is found by who looks for it; his value, too. -/
theorem look_yes {c c' : C} {s s' : S} {x : Nat} (ho : Ok c) (hl : Li B t c s) (hx : Fx t c s) (hp : s.p = 0) (h0 : c.lay = 0) (h' : Fd B t c' s' x) (hk : c.key = c'.key) (hh : c.h = c'.h) (hlg : c.lg = c'.lg) : s.f = ⟨2, Tb.sc (Tb.grp c.lg) (gn c s.n : Nat) s.i, x, Rd.val (B (x / 8))⟩ := by
  have eg : ∀ m, gn c m = gn c' m := fun m => by unfold gn; rw [hh, hlg]
  have ec : cl c = cl c' := by unfold cl; rw [hh]
  obtain ⟨c0, c1⟩ := cl_bd c ho.h
  have hn' := h'.n
  have hi' := h'.i8
  have hno : ¬ Pl B t c (gn c s'.n) s'.i := fun hpl => by
    obtain ⟨-, hpl⟩ := hpl
    rw [eg] at hpl
    obtain ⟨-, hno⟩ := hpl (h'.byt.trans ec.symm)
    rw [h'.slot] at hno
    exact hno (h'.own.trans hk.symm)
  rcases hl.fin hp with ⟨h1, h2, h3⟩ | ⟨y, y0, h1, h2, h3, h4, h6, h7, h8⟩ | ⟨h1, -⟩ | ⟨-, h1, -⟩
  · exfalso
    rcases h3 with ⟨a, b⟩ | ⟨a, b, d, e⟩
    · exact hno (b.1 s'.n (by rw [a, hlg]; exact hn') s'.i hi')
    · have hw := hx (by omega) a
      rcases Nat.lt_trichotomy s.n s'.n with q | q | q
      · have := (h'.past.1 s.n q s.i b).1
        rw [← eg, ← hw] at this
        exact this e
      · rcases Nat.lt_trichotomy s.i s'.i with q2 | q2 | q2
        · have := (h'.past.2 s.i q2).1
          rw [← q, ← eg, ← hw] at this
          exact this e
        · have := h'.byt
          rw [← q, ← q2, ← eg, ← hw, e, ← ec] at this
          omega
        · refine hno ?_
          rw [← q]
          exact d.2 s'.i q2
      · exact hno (d.1 s'.n q s'.i hi')
  · have hf : Fd B t c s y := ⟨h1, h2, h3, h4, h6, y0, h7, by rw [h8], by rw [h8]⟩
    obtain ⟨-, -, ex, -, -⟩ := fd_same hf h' hk hh hlg
    rw [h8, ex]
  · exact absurd h0 h1
  · exact absurd h0 h1
/-- A key that nobody has laid is absent. -/
theorem look_no (h : Gi B G t R c s) {r : Nat} (hr : r < R) (hp : (s r).p = 0) (h0 : (c r).lay = 0) (hno : ∀ k, k < R → (c k).lay ≠ 0 → (c k).key ≠ (c r).key) : (s r).f = ⟨1, 0, 0, []⟩ := by
  rcases (h.li r hr).fin hp with ⟨h1, -⟩ | ⟨y, y0, h1, h2, h3, h4, h6, h7, h8⟩ | ⟨h1, -⟩ | ⟨-, h1, -⟩
  · exact h1
  · have hf : Fd B t (c r) (s r) y := ⟨h1, h2, h3, h4, h6, y0, h7, by rw [h8], by rw [h8]⟩
    obtain ⟨k, hk, a, -, -, b, -⟩ := fd_laid h hf
    exact absurd b (hno k hk a)
  · exact absurd h0 h1
  · exact absurd h0 h1
end
end Go.Proofs.YtknefjigdlbacaaGreatDoor.Sk
