/-
  Several texts in one: The memory of several seeks, as their table and boxes are seen in it; what an act of one does to it. Plain mathematics; An act of one seek among several, on their memory; one of them done alone, to its end. Plain mathematics. By an AI agent.
-/
import Derived.Test.YtknefjigdlbacaaGreatDoorSkGBO
import Derived.Test.YtknefjigdlbacaaGreatDoorSkGBJ
import Derived.Test.YtknefjigdlbacaaGreatDoorSkGBL
import Derived.Test.YtknefjigdlbacaaGreatDoorSkGBM
set_option linter.unusedVariables false
set_option linter.unusedSimpArgs false
namespace Go.Proofs.YtknefjigdlbacaaGreatDoor.Sk
open Go.Proofs.YtknefjigdlbacaaGreatDoor Ln
/-- A table's words: what is seen of them, and stripes that are not above m. -/
structure Tab (G m : Nat) (t : Tv) (ts : List Int) : Prop where
  len : ts.length = 7 + 9 * G
  pos : ∀ j, 0 ≤ ts.getD j 0
  w : ∀ g, g < G → ts.getD (7 + g) 0 = t.w g
  l : ∀ g j, g < G → j < 8 → ts.getD (7 + G + 8 * g + j) 0 = t.l g j
  st : ∀ j, 3 ≤ j → j < 7 → ts.getD j 0 ≤ m
theorem getD_set (l : List Int) {i : Nat} (j : Nat) (v : Int) (hi : i < l.length) : (l.set i v).getD j 0 = if j = i then v else l.getD j 0 := by
  rw [List.getD_eq_getElem?_getD, List.getElem?_set, List.getD_eq_getElem?_getD]
  by_cases e : i = j
  · subst e; simp [hi]
  · rw [if_neg e, if_neg (fun h => e h.symm)]
section
variable {G m : Nat} {t : Tv} {ts : List Int}
theorem Tab.up (h : Tab G m t ts) : Tab G (m + 1) t ts := ⟨h.len, h.pos, h.w, h.l, fun j a b => by have := h.st j a b; omega⟩
theorem Tab.setw (h : Tab G m t ts) {g v : Nat} (hg : g < G) : Tab G m (setW t g v) (ts.set (7 + g) (v : Int)) := by
  have hl := h.len
  have hs := fun j => getD_set ts (i := 7 + g) j (v : Int) (by omega)
  refine ⟨by rw [List.length_set]; exact hl, fun j => ?_, fun k hk => ?_, fun k j hk hj => ?_, fun j a b => ?_⟩
  · rw [hs]; split
    · omega
    · exact h.pos j
  · rw [hs]
    show _ = (((if k = g then v else t.w k : Nat)) : Int)
    by_cases e : k = g
    · rw [if_pos (by omega), if_pos e]
    · rw [if_neg (by omega), if_neg e]; exact h.w k hk
  · rw [hs, if_neg (by omega)]; exact h.l k j hk hj
  · rw [hs, if_neg (by omega)]; exact h.st j a b
theorem Tab.setl (h : Tab G m t ts) {g i v : Nat} (hg : g < G) (hi : i < 8) : Tab G m (setL t g i v) (ts.set (7 + G + 8 * g + i) (v : Int)) := by
  have hl := h.len
  have hs := fun j => getD_set ts (i := 7 + G + 8 * g + i) j (v : Int) (by omega)
  refine ⟨by rw [List.length_set]; exact hl, fun j => ?_, fun k hk => ?_, fun k j hk hj => ?_, fun j a b => ?_⟩
  · rw [hs]; split
    · omega
    · exact h.pos j
  · rw [hs, if_neg (by omega)]; exact h.w k hk
  · rw [hs]
    show _ = (((if k = g ∧ j = i then v else t.l k j : Nat)) : Int)
    by_cases e : k = g ∧ j = i
    · rw [if_pos (by omega), if_pos e]
    · rw [if_neg (by omega), if_neg e]; exact h.l k j hk hj
  · rw [hs, if_neg (by omega)]; exact h.st j a b
theorem Tab.sets (h : Tab G m t ts) {k v : Nat} (h3 : 3 ≤ k) (h7 : k < 7) (hv : v ≤ m + 1) : Tab G (m + 1) t (ts.set k (v : Int)) := by
  have hl := h.len
  have hs := fun j => getD_set ts (i := k) j (v : Int) (by omega)
  refine ⟨by rw [List.length_set]; exact hl, fun j => ?_, fun g hg => ?_, fun g j hg hj => ?_, fun j a b => ?_⟩
  · rw [hs]; split
    · omega
    · exact h.pos j
  · rw [hs, if_neg (by omega)]; exact h.w g hg
  · rw [hs, if_neg (by omega)]; exact h.l g j hg hj
  · rw [hs]; split
    · omega
    · have := h.st j a b; omega
end
/-- A memory: the desk of nn threads, the table, and the boxes up to nb. -/
structure See (B : Nat → List Nat) (G nn nb m : Nat) (t : Tv) (M : Mm.Mem) : Prop where
  desk : ∃ ds, Mm.get M.L 1 = some ds ∧ ds.length = 2 + 2 * nn ∧ ∀ j, 0 ≤ ds.getD j 0
  tab : ∃ ts, Mm.get M.L 2 = some ts ∧ Tab G m t ts
  box : ∀ b, 3 ≤ b → b ≤ nb → Mm.get M.L b = some (Kr.up (B b))
section
variable {B : Nat → List Nat} {G nn nb m : Nat} {t : Tv} {M : Mm.Mem} {c : C} {s : S}
theorem at_of {x : A} {ws : List Int} (h : Mm.get M.L x.b = some ws) : Mm.at_ M x = (ws.getD x.c.toNat 0).toNat := by unfold Mm.at_; simp only [h]
theorem See.up (h : See B G nn nb m t M) : See B G nn nb (m + 1) t M := by
  obtain ⟨ts, a, b⟩ := h.tab
  exact ⟨h.desk, ⟨ts, a, b.up⟩, h.box⟩
theorem See.put2 (h : See B G nn nb m t M) {ts : List Int} (hg : Mm.get M.L 2 = some ts) {i : Nat} {v : Int} {m' : Nat} {t' : Tv} (ht : Tab G m' t' (ts.set i v)) : See B G nn nb m' t' (M.put 2 i v) := by
  obtain ⟨ds, a, b⟩ := h.desk
  exact ⟨⟨ds, by show Mm.get (Mm.put M.L 2 i v) 1 = _; rw [Mm.get_put_other _ _ _ (by omega)]; exact a, b⟩, ⟨_, Mm.get_put_same i v hg, ht⟩, fun b h3 hb => by show Mm.get (Mm.put M.L 2 i v) b = _; rw [Mm.get_put_other _ _ _ (by omega)]; exact h.box b h3 hb⟩
theorem See.put1 (h : See B G nn nb m t M) {i v : Nat} (hi : i < 2 + 2 * nn) : See B G nn nb m t (M.put 1 i (v : Int)) := by
  obtain ⟨ds, a, b, d⟩ := h.desk
  obtain ⟨ts, e, f⟩ := h.tab
  refine ⟨⟨ds.set i (v : Int), Mm.get_put_same i v a, by rw [List.length_set]; exact b, fun j => ?_⟩, ⟨ts, by show Mm.get (Mm.put M.L 1 i v) 2 = _; rw [Mm.get_put_other _ _ _ (by omega)]; exact e, f⟩, fun k h3 hb => by show Mm.get (Mm.put M.L 1 i v) k = _; rw [Mm.get_put_other _ _ _ (by omega)]; exact h.box k h3 hb⟩
  rw [getD_set ds j (v : Int) (by omega)]
  split
  · omega
  · exact d j
/-- What an act does to the memory. -/
theorem see_step (h : See B G nn nb m t M) (ho : Ok c) (hw : Wf c s) (hl : Li B t c s) (hp : s.p ≠ 0) (hG : Tb.grp c.lg = G) (hb : c.b = 2) (hd : c.d = 1) (hth : c.th < nn) (hnn : nn ≤ 64) (hm : m < 1000000000) (hnb : nb ≤ 1000000) (hB : ∀ b, (B b).length ≤ 6) (hx : s.p = 8 → 3 ≤ s.x / 8 ∧ s.x / 8 ≤ nb ∧ s.rs.length < (B (s.x / 8)).length) :
    ∃ ws, Mm.Ok M (act c s) ws ∧ Mm.ans M (act c s) = ansT B t c s (Mm.ans M (act c s)) ∧ See B G nn nb (m + 1) (aftT t c s) (Mm.aft M (act c s)) := by
  have hgl := Tb.grp_le c.lg
  obtain ⟨ts, hts, hT⟩ := h.tab
  have hlen := hT.len
  have hn := hw.nl hp
  have hgn : gn c s.n < Tb.grp c.lg := Rt.gat_lt (by omega)
  have hg := hl.g hp
  have hgc : gcell c s = ((7 + gn c s.n : Nat) : Int) := by unfold gcell; rw [hg, Tb.gc_in (by omega) (by omega)]; omega
  have hp8 := hw.p
  have hp2 := hl.p2
  have hsc : s.p ≠ 1 → scell c s = ((7 + G + 8 * gn c s.n + s.i : Nat) : Int) := fun h1 => by
    have h8 := hw.i8 hp h1
    unfold scell
    rw [hg, Tb.sc_in (by omega) (by omega) (by omega) (by omega)]; omega
  have hww : (ts.getD (7 + gn c s.n) 0) = t.w (gn c s.n) := hT.w _ (by omega)
  have ok : ∀ x : A, x.b = 2 → 0 ≤ x.c → x.c.toNat < 7 + 9 * G → ((x.k = 1 ∧ x.o = 0 ∧ x.n = 0) ∨ x.k = 3 ∨ (x.k = 4 ∧ x.o = 0 ∧ (ts.getD x.c.toNat 0).toNat + x.n < 18446744073709551616)) → Mm.Ok M x ts := fun x h1 h2 h3 h4 =>
    ⟨by omega, by rw [h1]; exact hts, h2, by omega, by omega, hT.pos _, by rcases h4 with h | h | h; exact .inl h; exact .inr (.inr (.inl h)); exact .inr (.inr (.inr h))⟩
  rcases (show s.p = 1 ∨ s.p = 3 ∨ s.p = 4 ∨ s.p = 5 ∨ s.p = 6 ∨ s.p = 7 ∨ s.p = 8 by omega) with e | e | e | e | e | e | e
  · have ea : act c s = ⟨1, 2, gcell c s, 0, 0⟩ := by unfold act; rw [if_pos e, hb]
    have et : aftT t c s = t := by unfold aftT; rw [if_neg (by omega), if_neg (by omega)]
    rw [ea, et, hgc]
    refine ⟨ts, ok _ rfl (by simp only; omega) (by simp only; omega) (.inl ⟨rfl, rfl, rfl⟩), ?_, ?_⟩
    · have a : Mm.ans M ⟨1, 2, ((7 + gn c s.n : Nat) : Int), 0, 0⟩ = t.w (gn c s.n) := by
        unfold Mm.ans
        rw [if_neg (by simp), at_of hts]
        simp only [Int.toNat_natCast]
        rw [hww, Int.toNat_natCast]
      rw [a]
      unfold ansT
      rw [if_pos (.inl e)]
    · unfold Mm.aft
      rw [if_neg (by simp), if_neg (by simp), if_neg (by simp)]
      exact h.up
  · have ea : act c s = ⟨3, 2, gcell c s, s.w, clmd c s⟩ := by unfold act; rw [if_neg (by omega), if_neg (by omega), if_pos e, hb]
    rw [ea, hgc]
    have hat : Mm.at_ M ⟨3, 2, ((7 + gn c s.n : Nat) : Int), s.w, clmd c s⟩ = t.w (gn c s.n) := by
      rw [at_of hts]
      simp only [Int.toNat_natCast]
      rw [hww, Int.toNat_natCast]
    refine ⟨ts, ok _ rfl (by simp only; omega) (by simp only; omega) (.inr (.inl rfl)), ?_, ?_⟩
    · have a : Mm.ans M ⟨3, 2, ((7 + gn c s.n : Nat) : Int), s.w, clmd c s⟩ = t.w (gn c s.n) := by
        unfold Mm.ans
        rw [if_neg (by simp), hat]
      rw [a]
      unfold ansT
      rw [if_pos (.inr e)]
    · unfold Mm.aft
      rw [if_neg (by simp), if_pos rfl, hat]
      by_cases q : t.w (gn c s.n) = s.w
      · rw [if_pos q, show aftT t c s = setW t (gn c s.n) (clmd c s) by unfold aftT; rw [if_pos ⟨e, q⟩]]
        exact h.put2 hts (hT.up.setw (by omega))
      · rw [if_neg q, show aftT t c s = t by unfold aftT; rw [if_neg (fun x => q x.2), if_neg (by omega)]]
        exact h.up
  · have ea : act c s = ⟨4, 2, Tb.strp c.th, 0, 1⟩ := by unfold act; rw [if_neg (by omega), if_neg (by omega), if_neg (by omega), if_pos e, hb]
    have et : aftT t c s = t := by unfold aftT; rw [if_neg (by omega), if_neg (by omega)]
    have hsp : Tb.strp c.th = ((3 + c.th % 4 : Nat) : Int) := by unfold Tb.strp; omega
    have hst := hT.st (3 + c.th % 4) (by omega) (by omega)
    have hst0 := hT.pos (3 + c.th % 4)
    rw [ea, et, hsp]
    have hat : Mm.at_ M ⟨4, 2, ((3 + c.th % 4 : Nat) : Int), 0, 1⟩ = (ts.getD (3 + c.th % 4) 0).toNat := by
      rw [at_of hts]
      simp only [Int.toNat_natCast]
    refine ⟨ts, ok _ rfl (by simp only; omega) (by simp only; omega) (.inr (.inr ⟨rfl, rfl, by simp only [Int.toNat_natCast]; omega⟩)), ?_, ?_⟩
    · unfold ansT
      rw [if_neg (by omega), if_neg (by omega), if_neg (by omega), if_neg (by omega)]
    · unfold Mm.aft
      rw [if_neg (by simp), if_neg (by simp), if_pos rfl, hat]
      exact h.put2 hts (hT.sets (k := 3 + c.th % 4) (v := (ts.getD (3 + c.th % 4) 0).toNat + 1) (by omega) (by omega) (by omega))
  · have hsl := hT.l (gn c s.n) s.i (by omega) (hw.i8 hp (by omega))
    have h8 := hw.i8 hp (by omega)
    have ea : act c s = ⟨1, 2, scell c s, 0, 0⟩ := by unfold act; rw [if_neg (by omega), if_neg (by omega), if_neg (by omega), if_neg (by omega), if_pos e, hb]
    have et : aftT t c s = t := by unfold aftT; rw [if_neg (by omega), if_neg (by omega)]
    rw [ea, et, hsc (by omega)]
    refine ⟨ts, ok _ rfl (by simp only; omega) (by simp only; omega) (.inl ⟨rfl, rfl, rfl⟩), ?_, ?_⟩
    · have a : Mm.ans M ⟨1, 2, ((7 + G + 8 * gn c s.n + s.i : Nat) : Int), 0, 0⟩ = t.l (gn c s.n) s.i := by
        unfold Mm.ans
        rw [if_neg (by simp), at_of hts]
        simp only [Int.toNat_natCast]
        rw [hsl, Int.toNat_natCast]
      rw [a]
      unfold ansT
      rw [if_neg (by omega), if_pos (.inl e)]
    · unfold Mm.aft
      rw [if_neg (by simp), if_neg (by simp), if_neg (by simp)]
      exact h.up
  · have hsl := hT.l (gn c s.n) s.i (by omega) (hw.i8 hp (by omega))
    have h8 := hw.i8 hp (by omega)
    have ea : act c s = ⟨3, 2, scell c s, 0, laidw c⟩ := by unfold act; rw [if_neg (by omega), if_neg (by omega), if_neg (by omega), if_neg (by omega), if_neg (by omega), if_pos e, hb]
    rw [ea, hsc (by omega)]
    have hat : Mm.at_ M ⟨3, 2, ((7 + G + 8 * gn c s.n + s.i : Nat) : Int), 0, laidw c⟩ = t.l (gn c s.n) s.i := by
      rw [at_of hts]
      simp only [Int.toNat_natCast]
      rw [hsl, Int.toNat_natCast]
    refine ⟨ts, ok _ rfl (by simp only; omega) (by simp only; omega) (.inr (.inl rfl)), ?_, ?_⟩
    · have a : Mm.ans M ⟨3, 2, ((7 + G + 8 * gn c s.n + s.i : Nat) : Int), 0, laidw c⟩ = t.l (gn c s.n) s.i := by
        unfold Mm.ans
        rw [if_neg (by simp), hat]
      rw [a]
      unfold ansT
      rw [if_neg (by omega), if_pos (.inr e)]
    · unfold Mm.aft
      rw [if_neg (by simp), if_pos rfl, hat]
      by_cases q : t.l (gn c s.n) s.i = 0
      · rw [if_pos q, show aftT t c s = setL t (gn c s.n) s.i (laidw c) by unfold aftT; rw [if_neg (by omega), if_pos ⟨e, q⟩]]
        exact h.put2 hts (hT.up.setl (by omega) h8)
      · rw [if_neg q, show aftT t c s = t by unfold aftT; rw [if_neg (by omega), if_neg (fun x => q x.2)]]
        exact h.up
  · have hsl := hT.l (gn c s.n) s.i (by omega) (hw.i8 hp (by omega))
    have h8 := hw.i8 hp (by omega)
    have et : aftT t c s = t := by unfold aftT; rw [if_neg (by omega), if_neg (by omega)]
    have ea0 : act c s = Sh.act 1 (3 + 2 * (c.th : Int)) 2 (scell c s) s.sh := by unfold act; rw [if_neg (by omega), if_neg (by omega), if_neg (by omega), if_neg (by omega), if_neg (by omega), if_neg (by omega), if_pos e, hb, hd]
    rw [et, ea0]
    rcases (show s.sh.p = 1 ∨ s.sh.p = 2 by have := hw.shi e; omega) with e1 | e1
    · obtain ⟨ds, hds, hdl, hdp⟩ := h.desk
      have ea : Sh.act 1 (3 + 2 * (c.th : Int)) 2 (scell c s) s.sh = ⟨2, 1, ((3 + 2 * c.th : Nat) : Int), 0, s.sh.r / 8⟩ := by
        unfold Sh.act
        rw [if_pos e1, show (3 + 2 * (c.th : Int)) = ((3 + 2 * c.th : Nat) : Int) by omega]
      rw [ea]
      refine ⟨ds, ⟨by simp only; omega, hds, by simp only; omega, by simp only [Int.toNat_natCast]; omega, by omega, hdp _, .inr (.inl ⟨rfl, rfl⟩)⟩, ?_, ?_⟩
      · unfold ansT
        rw [if_neg (by omega), if_neg (by omega), if_pos e, if_pos e1]
      · unfold Mm.aft
        rw [if_pos rfl]
        exact h.up.put1 (by simp only [Int.toNat_natCast]; omega)
    · have ea : Sh.act 1 (3 + 2 * (c.th : Int)) 2 (scell c s) s.sh = ⟨1, 2, scell c s, 0, 0⟩ := by
        unfold Sh.act
        rw [if_neg (by omega), if_pos e1]
      rw [ea, hsc (by omega)]
      refine ⟨ts, ok _ rfl (by simp only; omega) (by simp only; omega) (.inl ⟨rfl, rfl, rfl⟩), ?_, ?_⟩
      · have a : Mm.ans M ⟨1, 2, ((7 + G + 8 * gn c s.n + s.i : Nat) : Int), 0, 0⟩ = t.l (gn c s.n) s.i := by
          unfold Mm.ans
          rw [if_neg (by simp), at_of hts]
          simp only [Int.toNat_natCast]
          rw [hsl, Int.toNat_natCast]
        rw [a]
        unfold ansT
        rw [if_neg (by omega), if_neg (by omega), if_pos e, if_neg (by omega)]
      · unfold Mm.aft
        rw [if_neg (by simp), if_neg (by simp), if_neg (by simp)]
        exact h.up
  · obtain ⟨x3, xn, hml⟩ := hx e
    obtain ⟨hlt, -⟩ := hw.rd e
    have hbx := h.box _ x3 xn
    have hB6 := hB (s.x / 8)
    have et : aftT t c s = t := by unfold aftT; rw [if_neg (by omega), if_neg (by omega)]
    have ea : act c s = ⟨1, s.x / 8, (s.rs.length : Int), 0, 0⟩ := by unfold act; rw [if_neg (by omega), if_neg (by omega), if_neg (by omega), if_neg (by omega), if_neg (by omega), if_neg (by omega), if_neg (by omega), if_pos e, Rd.act_yes hlt]
    have hv : (Kr.up (B (s.x / 8))).getD s.rs.length 0 = (((B (s.x / 8)).getD s.rs.length 0 : Nat) : Int) := by
      rw [List.getD_eq_getElem?_getD, List.getElem?_eq_getElem (by rw [Kr.up_len]; exact hml), Kr.up_get hml]
      rfl
    rw [ea, et]
    refine ⟨_, ⟨by simp only; omega, hbx, by simp only; omega, by simp only [Int.toNat_natCast]; rw [Kr.up_len]; exact hml, by rw [Kr.up_len]; omega, by simp only [Int.toNat_natCast]; rw [hv]; omega, .inl ⟨rfl, rfl, rfl⟩⟩, ?_, ?_⟩
    · have a : Mm.ans M ⟨1, s.x / 8, (s.rs.length : Int), 0, 0⟩ = (B (s.x / 8)).getD s.rs.length 0 := by
        unfold Mm.ans
        rw [if_neg (by simp), at_of hbx]
        simp only [Int.toNat_natCast]
        rw [hv, Int.toNat_natCast]
      rw [a]
      unfold ansT
      rw [if_neg (by omega), if_neg (by omega), if_neg (by omega), if_pos e]
    · unfold Mm.aft
      rw [if_neg (by simp), if_neg (by simp), if_neg (by simp)]
      exact h.up
end
end Go.Proofs.YtknefjigdlbacaaGreatDoor.Sk
set_option linter.unusedVariables false
set_option linter.unusedSimpArgs false
namespace Go.Proofs.YtknefjigdlbacaaGreatDoor.Sk
open Go.Proofs.YtknefjigdlbacaaGreatDoor Ln
/-- What stays as it is: the boxes, the sites, the table. -/
structure Env (B : Nat → List Nat) (nn nb R : Nat) (c : Nat → C) : Prop where
  b : ∀ r, r < R → (c r).b = 2
  d : ∀ r, r < R → (c r).d = 1
  th : ∀ r, r < R → (c r).th < nn
  nn64 : nn ≤ 64
  nbm : nb ≤ 1000000
  len : ∀ b, (B b).length ≤ 6
  wds : ∀ b, ∀ x ∈ B b, x < 18446744073709551616
  lay : ∀ r, r < R → (c r).lay ≠ 0 → 3 ≤ laidw (c r) / 8 ∧ laidw (c r) / 8 ≤ nb
def Wb (t : Tv) : Prop := ∀ g, t.w g < 18446744073709551616
section
variable {B : Nat → List Nat} {G nn nb m R : Nat} {t : Tv} {M : Mm.Mem} {c : Nat → C} {s : Nat → S}
theorem wb_aft {c : C} {s : S} (hw : Wf c s) (h : Wb t) : Wb (aftT t c s) := by
  unfold aftT
  split
  · intro g
    show (if g = gn c s.n then clmd c s else t.w g) < _
    split
    · exact clmd_bd hw.w
    · exact h g
  · split
    · exact h
    · exact h
theorem rd_more {c : C} {s : S} (hw : Wf c s) (hl : Li B t c s) (hsi : Si B t) (e : s.p = 8) : s.rs.length < (B (s.x / 8)).length := by
  obtain ⟨hx, hx0, hrs⟩ := hl.rd e
  obtain ⟨hlt, -⟩ := hw.rd e
  obtain ⟨q1, q2, q3⟩ := hsi _ _ (hw.i8 (by omega) (by omega)) (by rw [← hx]; exact hx0)
  rw [← hx] at q3
  by_cases hm0 : s.rs.length = 0
  · have := Rd.sz_bd (B (s.x / 8)); omega
  · rw [hrs, sz_tk (by omega), q3, ← hrs] at hlt; exact hlt
/-- What one act comes to. -/
structure Gone (B : Nat → List Nat) (G nn nb m R : Nat) (t : Tv) (M : Mm.Mem) (c : Nat → C) (s : Nat → S) (r v : Nat) : Prop where
  ok : ∃ ws, Mm.Ok M (act (c r) (s r)) ws
  vb : v < 18446744073709551616
  mlt : mu (c r) (step (c r) (s r) v) < mu (c r) (s r)
  gi : Gi B G (aftT t (c r) (s r)) R c (upd s r (step (c r) (s r) v))
  grow : Grow t (aftT t (c r) (s r))
  see : See B G nn nb (m + 1) (aftT t (c r) (s r)) (Mm.aft M (act (c r) (s r)))
  wb : Wb (aftT t (c r) (s r))
  eq : v = ansT B t (c r) (s r) v
theorem go1 (E : Env B nn nb R c) (h : Gi B G t R c s) (hs : See B G nn nb m t M) (hwb : Wb t) {r : Nat} (hr : r < R) (hp : (s r).p ≠ 0) (hz : (c r).lay = 0 → ∀ g j : Nat, g < Tb.grp (c r).lg → j < 8 → byt (t.w g) j ≠ 0 → t.l g j ≠ 0) (hm : m < 1000000000) :
    Gone B G nn nb m R t M c s r (Mm.ans M (act (c r) (s r))) := by
  have ho := h.ok r hr
  have hw := h.wf r hr
  have hl := h.li r hr
  have hsi := h.si
  have hp8 := hw.p
  have hp2 := hl.p2
  have hx : (s r).p = 8 → 3 ≤ (s r).x / 8 ∧ (s r).x / 8 ≤ nb ∧ (s r).rs.length < (B ((s r).x / 8)).length := fun e => by
    obtain ⟨hx, hx0, -⟩ := hl.rd e
    obtain ⟨k, hk, a, -, -, -, b⟩ := h.word (hw.i8 hp (by omega)) (by rw [← hx]; exact hx0)
    rw [← hx] at b
    rw [b]
    exact ⟨(E.lay k hk a).1, (E.lay k hk a).2, by rw [← b]; exact rd_more hw hl hsi e⟩
  obtain ⟨ws, hok, hv, hsee⟩ := see_step hs ho hw hl hp (h.grp r hr) (E.b r hr) (E.d r hr) (E.th r hr) E.nn64 hm E.nbm E.len hx
  have hlb : ∀ g j : Nat, j < 8 → t.l g j < 18446744073709551616 := fun g j hj => by
    by_cases e : t.l g j = 0
    · omega
    · obtain ⟨k, hk, -, -, -, -, b⟩ := h.word hj e
      rw [b]; exact laidw_bd _
  have hvb : Mm.ans M (act (c r) (s r)) < 18446744073709551616 := by
    rcases (show (s r).p = 1 ∨ (s r).p = 3 ∨ (s r).p = 4 ∨ (s r).p = 5 ∨ (s r).p = 6 ∨ (s r).p = 7 ∨ (s r).p = 8 by omega) with e | e | e | e | e | e | e
    · rw [hv]; unfold ansT; rw [if_pos (.inl e)]; exact hwb _
    · rw [hv]; unfold ansT; rw [if_pos (.inr e)]; exact hwb _
    · have ek : (act (c r) (s r)).k = 4 := by unfold act; rw [if_neg (by omega), if_neg (by omega), if_neg (by omega), if_pos e]
      unfold Mm.ans
      rw [if_neg (by omega), at_of hok.get]
      rcases hok.form with ⟨a, -⟩ | ⟨a, -⟩ | a | ⟨-, -, a⟩
      · omega
      · omega
      · omega
      · omega
    · rw [hv]; unfold ansT; rw [if_neg (by omega), if_pos (.inl e)]; exact hlb _ _ (hw.i8 hp (by omega))
    · rw [hv]; unfold ansT; rw [if_neg (by omega), if_pos (.inr e)]; exact hlb _ _ (hw.i8 hp (by omega))
    · rcases (show (s r).sh.p = 1 ∨ (s r).sh.p = 2 by have := hw.shi e; omega) with e1 | e1
      · have ek : (act (c r) (s r)).k = 2 := by
          unfold act
          rw [if_neg (by omega), if_neg (by omega), if_neg (by omega), if_neg (by omega), if_neg (by omega), if_neg (by omega), if_pos e]
          unfold Sh.act
          rw [if_pos e1]
        unfold Mm.ans
        rw [if_pos ek]
        omega
      · rw [hv]; unfold ansT; rw [if_neg (by omega), if_neg (by omega), if_pos e, if_neg (by omega)]; exact hlb _ _ (hw.i8 hp (by omega))
    · rw [hv]; unfold ansT; rw [if_neg (by omega), if_neg (by omega), if_neg (by omega), if_pos e]
      have h8 := (hx e).2.2
      rw [List.getD_eq_getElem?_getD, List.getElem?_eq_getElem h8]
      exact E.wds _ _ (List.getElem_mem h8)
  have hmu := mu_step ho hw hl hp hsi hwb (Mm.ans M (act (c r) (s r)))
  rw [← hv] at hmu
  have hwf := wf_step ho hw hvb
  have hgi := gi_step h hr hp hz (Mm.ans M (act (c r) (s r))) (by rw [← hv]; exact hwf)
  rw [← hv] at hgi
  exact ⟨⟨ws, hok⟩, hvb, hmu, hgi.1, hgi.2, hsee, wb_aft hw hwb, hv⟩
theorem upd_upd (s : Nat → S) (r : Nat) (x y : S) : upd (upd s r x) r y = upd s r y := by
  funext k
  unfold upd
  split <;> rfl
theorem upd_self (s : Nat → S) (r : Nat) : upd s r (s r) = s := by
  funext k
  unfold upd
  split
  · rename_i e; rw [e]
  · rfl
theorem Grow.trans {t t' t2 : Tv} (h : Grow t t') (h2 : Grow t' t2) : Grow t t2 := ⟨fun g j hj h0 => by
  have a := h.w g j hj h0
  rw [h2.w g j hj (by rw [a]; exact h0), a], fun g j hj h0 => by
  have a := h.l g j hj h0
  rw [h2.l g j hj (by rw [a]; exact h0), a]⟩
/-- What one seek done alone comes to. -/
structure Done (B : Nat → List Nat) (G nn nb m R : Nat) (t : Tv) (M : Mm.Mem) (c : Nat → C) (s : Nat → S) (r N : Nat) (t' : Tv) : Prop where
  go : ∀ k, k < N → (cr (c r) (s r, M) k).1.p ≠ 0 ∧ (∃ ws, Mm.Ok (cr (c r) (s r, M) k).2 (act (c r) (cr (c r) (s r, M) k).1) ws) ∧ Mm.ans (cr (c r) (s r, M) k).2 (act (c r) (cr (c r) (s r, M) k).1) < 18446744073709551616 ∧ mu (c r) (cr (c r) (s r, M) (k + 1)).1 < mu (c r) (cr (c r) (s r, M) k).1
  wf : ∀ k, k ≤ N → Wf (c r) (cr (c r) (s r, M) k).1
  fin : (cr (c r) (s r, M) N).1.p = 0
  gi : Gi B G t' R c (upd s r (cr (c r) (s r, M) N).1)
  grow : Grow t t'
  see : See B G nn nb (m + N) t' (cr (c r) (s r, M) N).2
  wb : Wb t'
  fx : (c r).lay = 0 → t' = t ∧ (Fx t (c r) (s r) → Fx t (c r) (cr (c r) (s r, M) N).1)
theorem done_any (E : Env B nn nb R c) {r : Nat} (hr : r < R) : ∀ (K m : Nat) (t : Tv) (M : Mm.Mem) (s : Nat → S), mu (c r) (s r) ≤ K → Gi B G t R c s → See B G nn nb m t M → Wb t → ((c r).lay = 0 → ∀ g j : Nat, g < Tb.grp (c r).lg → j < 8 → byt (t.w g) j ≠ 0 → t.l g j ≠ 0) → m + K < 1000000000 → ∃ N t', N ≤ K ∧ Done B G nn nb m R t M c s r N t' := by
  intro K
  induction K with
  | zero =>
    intro m t M s hmu h hs hwb hz hm
    have hp : (s r).p = 0 := by
      apply Decidable.byContradiction
      intro hp
      have := (go1 E h hs hwb hr hp hz (by omega)).mlt
      omega
    exact ⟨0, t, Nat.le_refl _, fun k hk => by omega, fun k hk => by obtain rfl : k = 0 := by omega
                                                                     exact h.wf r hr, hp, by rw [show (cr (c r) (s r, M) 0).1 = s r from rfl, upd_self]; exact h, Grow.refl t, hs, hwb, fun _ => ⟨rfl, id⟩⟩
  | succ K ih =>
    intro m t M s hmu h hs hwb hz hm
    by_cases hp : (s r).p = 0
    · exact ⟨0, t, Nat.zero_le _, fun k hk => by omega, fun k hk => by obtain rfl : k = 0 := by omega
                                                                       exact h.wf r hr, hp, by rw [show (cr (c r) (s r, M) 0).1 = s r from rfl, upd_self]; exact h, Grow.refl t, hs, hwb, fun _ => ⟨rfl, id⟩⟩
    · have g := go1 E h hs hwb hr hp hz (by omega)
      have hl := h.li r hr
      have hw := h.wf r hr
      have ht0 : (c r).lay = 0 → aftT t (c r) (s r) = t := fun h0 => by
        unfold aftT
        rw [if_neg (fun e => (hl.free e.1).2 h0), if_neg (fun e => hl.lay (.inr e.1) h0)]
      have gi := g.gi
      obtain ⟨v, hv⟩ : ∃ v, v = Mm.ans M (act (c r) (s r)) := ⟨_, rfl⟩
      obtain ⟨x, hxx⟩ : ∃ x, x = step (c r) (s r) v := ⟨_, rfl⟩
      rw [← hv] at g gi
      rw [← hxx] at gi
      have gmu := g.mlt
      rw [← hxx] at gmu
      have hadv : adv (c r) (s r, M) = (x, Mm.aft M (act (c r) (s r))) := by unfold adv; simp only; rw [← hv, hxx]
      obtain ⟨N, t', hN, D⟩ := ih (m + 1) (aftT t (c r) (s r)) (Mm.aft M (act (c r) (s r))) (upd s r x) (by rw [upd_same]; omega) gi g.see g.wb (fun h0 => by rw [ht0 h0]; exact hz h0) (by omega)
      have hcr : ∀ k, cr (c r) (s r, M) (k + 1) = cr (c r) ((upd s r x) r, Mm.aft M (act (c r) (s r))) k := fun k => by
        rw [upd_same, cr_succ, hadv]
      refine ⟨N + 1, t', by omega, fun k hk => ?_, fun k hk => ?_, ?_, ?_, g.grow.trans D.grow, ?_, D.wb, fun h0 => ?_⟩
      · cases k with
        | zero =>
          refine ⟨hp, g.ok, by show Mm.ans M (act (c r) (s r)) < _; rw [← hv]; exact g.vb, ?_⟩
          rw [hcr 0]
          show mu (c r) (upd s r x r) < mu (c r) (s r)
          rw [upd_same]; exact gmu
        | succ k =>
          have := D.go k (by omega)
          rw [← hcr, ← hcr] at this
          exact this
      · cases k with
        | zero => exact hw
        | succ k =>
          rw [hcr]; exact D.wf k (by omega)
      · rw [hcr]; exact D.fin
      · rw [hcr]
        have := D.gi
        rw [upd_upd] at this
        exact this
      · rw [hcr]
        have := D.see
        rw [show m + (N + 1) = m + 1 + N by omega]
        exact this
      · obtain ⟨a, b⟩ := D.fx h0
        rw [ht0 h0] at a b
        refine ⟨a, fun hf => ?_⟩
        rw [hcr]
        refine b ?_
        rw [upd_same, hxx, g.eq]
        exact fx_step hf hl hw hp h0 v
end
end Go.Proofs.YtknefjigdlbacaaGreatDoor.Sk
