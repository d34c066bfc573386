/-
  Several texts in one: How seeks begin: an empty table, one box more, one seek more; what acts never change. Plain mathematics; One seek behind the other: the first of a key lays, and who looks for the key afterwards finds what the first one laid. Plain mathematics; The boxes of a list of keys, and those who lay them. Plain mathematics; One round of SeekFinds' loops: a key laid, a key looked for. Plain mathematics. By an AI agent.
-/
import Derived.Test.YtknefjigdlbacaaGreatDoorSkGBP
set_option linter.unusedVariables false
set_option linter.unusedSimpArgs false
namespace Go.Proofs.YtknefjigdlbacaaGreatDoor.Sk
open Go.Proofs.YtknefjigdlbacaaGreatDoor Ln
/-- A table in which nothing is. -/
def t0 : Tv := ⟨fun _ => 0, fun _ _ => 0⟩
section
variable {B : Nat → List Nat} {G nn nb m R : Nat} {t : Tv} {M : Mm.Mem} {c : Nat → C} {s : Nat → S}
theorem byt_zero {j : Nat} (hj : j < 8) : byt ((0 : Nat) : Int) j = 0 := by
  rw [byt_in (by omega) (by omega)]
  simp
theorem gi_zero (B : Nat → List Nat) (G : Nat) (c : Nat → C) (s : Nat → S) : Gi B G t0 0 c s :=
  ⟨fun r h => by omega, fun r h => by omega, fun r h => by omega, fun r h => by omega, fun r h => by omega, fun g j hj => .inl (byt_zero hj), fun g j _ hj h0 => absurd (byt_zero hj) h0, fun g j _ h0 => absurd rfl h0⟩
theorem wb_zero : Wb t0 := fun _ => by show 0 < _; omega
/-- One seek more. -/
theorem gi_new (h : Gi B G t R c s) {chk : Bool} (ho : Ok (c R)) (hg : Tb.grp (c R).lg = G) (hl : (c R).lay ≠ 0 → laidw (c R) % 8 = 1 ∧ 8 ≤ laidw (c R) ∧ Rd.sz (B (laidw (c R) / 8)) = (B (laidw (c R) / 8)).length ∧ Own B (c R) (laidw (c R))) (hc : (c R).lay = 0 ∨ chk = false) : Gi B G t (R + 1) c (upd s R (start (c R) chk)) := by
  have each : ∀ P : Nat → Prop, (∀ r, r < R → P r) → P R → ∀ r, r < R + 1 → P r := fun P a b r hr => by
    by_cases e : r = R
    · subst e; exact b
    · exact a r (by omega)
  have hne : ∀ r, r < R → upd s R (start (c R) chk) r = s r := fun r hr => upd_ne (by omega)
  refine ⟨each _ h.ok ho, each _ h.grp hg, each _ h.lay hl, each _ (fun r hr => by rw [hne r hr]; exact h.wf r hr) ?_, each _ (fun r hr => by rw [hne r hr]; exact h.li r hr) ?_, h.ci, fun g j hG hj h0 => ?_, fun g j hj h0 => ?_⟩
  · rw [upd_same]
    exact wf_toG (s := zero chk) ho (by show 0 < _; omega) (by show 0 < _; omega) (by show 0 < _; omega) rfl (by show 0 ≤ 8; omega) (Nat.zero_le _)
  · rw [upd_same]
    exact li_toG (s := zero chk) (Nat.zero_le _) hc (Past.start B t (c R))
  · obtain ⟨r, hr, a, b⟩ := h.held g j hG hj h0
    exact ⟨r, by omega, by rw [hne r hr]; exact a, by rw [hne r hr]; exact b⟩
  · obtain ⟨r, hr, a, b, d⟩ := h.laid g j hj h0
    exact ⟨r, by omega, by rw [hne r hr]; exact a, by rw [hne r hr]; exact b, by rw [hne r hr]; exact d⟩
theorem fx_start (t : Tv) (c : C) (chk : Bool) : Fx t c (start c chk) := fx_toG
/-- Where all have ended, each claimed place is laid. -/
theorem all_laid (h : Gi B G t R c s) (hend : ∀ r, r < R → (s r).p = 0) {g j : Nat} (hg : g < G) (hj : j < 8) (h0 : byt (t.w g) j ≠ 0) : t.l g j ≠ 0 := by
  obtain ⟨r, hr, a, b, d⟩ := h.held g j hg hj h0
  have hp := hend r hr
  rcases a with a | a | ⟨-, a⟩
  · omega
  · omega
  · obtain ⟨h1, -, -, -, -, h2, -⟩ := fin3 ((h.li r hr).fin hp) a
    rw [b, d] at h2
    rw [h2]
    exact laid_pos h hr h1
/-- An empty table and its desk. -/
theorem see_zero {ds ts : List Int} (B : Nat → List Nat) (hd : Mm.get M.L 1 = some ds) (ht : Mm.get M.L 2 = some ts) (hdl : ds.length = 2 + 2 * nn) (hdp : ∀ j, 0 ≤ ds.getD j 0) (htl : ts.length = 7 + 9 * G) (htp : 0 ≤ ts.getD 0 0) (htz : ∀ j, 0 < j → ts.getD j 0 = 0) : See B G nn 2 0 t0 M :=
  ⟨⟨ds, hd, hdl, hdp⟩, ⟨ts, ht, htl, fun j => by
    by_cases e : j = 0
    · subst e; exact htp
    · rw [htz j (by omega)]; omega, fun g _ => htz _ (by omega), fun g j _ _ => htz _ (by omega), fun j _ _ => by rw [htz j (by omega)]; omega⟩, fun b h3 h2 => by omega⟩
theorem getD_rep (n j : Nat) : (List.replicate n (0 : Int)).getD j 0 = 0 := by
  rw [List.getD_eq_getElem?_getD, List.getElem?_replicate]
  split <;> rfl
/-- One box more. -/
theorem see_box {M' : Mm.Mem} (h : See B G nn nb m t M) (hM : M'.L = M.L ++ [(nb + 1, Kr.up (B (nb + 1)))]) (hno : Mm.get M.L (nb + 1) = none) (hnb : 2 ≤ nb) : See B G nn (nb + 1) m t M' := by
  obtain ⟨ds, a, b⟩ := h.desk
  obtain ⟨ts, d, e⟩ := h.tab
  refine ⟨⟨ds, by rw [hM, Mm.get_append, a]; rfl, b⟩, ⟨ts, by rw [hM, Mm.get_append, d]; rfl, e⟩, fun k h3 hk => ?_⟩
  rw [hM, Mm.get_append]
  by_cases q : k = nb + 1
  · subst q
    rw [hno]
    simp [Mm.get]
  · rw [h.box k h3 (by omega)]; rfl
end
/-! ### what acts never change -/
structure Keep (M M' : Mm.Mem) : Prop where
  room : M'.room = M.room
  last : M'.last = M.last
  faults : M'.faults = M.faults
  used : Mm.used M'.L = Mm.used M.L
  good : Mm.Good M → Mm.Good M'
theorem Keep.refl (M : Mm.Mem) : Keep M M := ⟨rfl, rfl, rfl, rfl, id⟩
theorem Keep.trans {M M' M2 : Mm.Mem} (h : Keep M M') (k : Keep M' M2) : Keep M M2 := ⟨k.room.trans h.room, k.last.trans h.last, k.faults.trans h.faults, k.used.trans h.used, fun g => k.good (h.good g)⟩
theorem Keep.put (M : Mm.Mem) (b i : Nat) (v : Int) : Keep M (M.put b i v) := ⟨rfl, rfl, rfl, Mm.used_put _ _ _ _, fun g => g.put b i v⟩
theorem keep_aft (M : Mm.Mem) (x : A) : Keep M (Mm.aft M x) := by
  unfold Mm.aft
  repeat' split
  all_goals first | exact Keep.put _ _ _ _ | exact Keep.refl M
theorem keep_cr (c : C) (x : S × Mm.Mem) : ∀ k, Keep x.2 (cr c x k).2
  | 0 => Keep.refl _
  | k + 1 => (keep_cr c x k).trans (keep_aft _ _)
end Go.Proofs.YtknefjigdlbacaaGreatDoor.Sk
set_option linter.unusedVariables false
set_option linter.unusedSimpArgs false
namespace Go.Proofs.YtknefjigdlbacaaGreatDoor.Sk
open Go.Proofs.YtknefjigdlbacaaGreatDoor Ln
/-- R seeks that lay, all ended; the first of each key has laid. -/
structure Laid (B : Nat → List Nat) (G : Nat) (t : Tv) (R : Nat) (c : Nat → C) (s : Nat → S) : Prop where
  gi : Gi B G t R c s
  fin : ∀ r, r < R → (s r).p = 0
  lay : ∀ r, r < R → (c r).lay ≠ 0
  room : ∀ r, r < R → (s r).f.k ≠ 5
  first : ∀ r, r < R → (∀ k, k < r → (c k).key ≠ (c r).key) → (s r).f.k = 3
section
variable {B : Nat → List Nat} {G : Nat} {t t' : Tv} {R : Nat} {c : Nat → C} {s : Nat → S} {x : S}
theorem laid_zero (B : Nat → List Nat) (G : Nat) (c : Nat → C) (s : Nat → S) : Laid B G t0 0 c s := ⟨gi_zero B G c s, fun r h => by omega, fun r h => by omega, fun r h => by omega, fun r h => by omega⟩
/-- One more has ended. -/
theorem laid_next (h : Laid B G t R c s) (hg : Gi B G t' (R + 1) c (upd s R x)) (hx : x.p = 0) (hl : (c R).lay ≠ 0) (hR : R + 1 ≤ 8 * G) (hlg : 0 ≤ (c R).lg ∧ (c R).lg ≤ 9) : Laid B G t' (R + 1) c (upd s R x) := by
  have hne : ∀ r, r < R → upd s R x r = s r := fun r hr => upd_ne (by omega)
  have hfin : ∀ r, r < R + 1 → (upd s R x r).p = 0 := fun r hr => by
    by_cases e : r = R
    · subst e; rw [upd_same]; exact hx
    · rw [hne r (by omega)]; exact h.fin r (by omega)
  have hroom : ∀ r, r < R + 1 → (upd s R x r).f.k ≠ 5 := fun r hr => by
    by_cases e : r = R
    · subst e; exact full_no hg hR (by omega) hlg.1 hlg.2 (hfin r hr)
    · rw [hne r (by omega)]; exact h.room r (by omega)
  refine ⟨hg, hfin, fun r hr => ?_, hroom, fun r hr hf => ?_⟩
  · by_cases e : r = R
    · subst e; exact hl
    · exact h.lay r (by omega)
  · by_cases e : r = R
    · subst e
      obtain ⟨y, hy, hk⟩ := found hg hr (hfin r hr) hl (hroom r hr)
      obtain ⟨k, hk1, -, -, hk3, hkey, -⟩ := fd_laid hg hy
      by_cases e2 : k = r
      · subst e2; exact hk3
      · exact absurd hkey (hf k (by omega))
    · rw [hne r (by omega)]; exact h.first r (by omega) hf
/-- A look-up's table: each claimed place is laid. -/
theorem Laid.all (h : Laid B G t R c s) {g j : Nat} (hg : g < G) (hj : j < 8) (h0 : byt (t.w g) j ≠ 0) : t.l g j ≠ 0 := all_laid h.gi h.fin hg hj h0
/-- What the first one laid is found. -/
theorem look_first (h : Laid B G t R c s) (hg : Gi B G t (R + 1) c (upd s R x)) (hx : x.p = 0) (hl : (c R).lay = 0) (hf : Fx t (c R) x) {k : Nat} (hk : k < R) (hmin : ∀ r, r < k → (c r).key ≠ (c k).key) (hkey : (c R).key = (c k).key) (hh : (c R).h = (c k).h) (hlg : (c R).lg = (c k).lg) :
    x.f = ⟨2, Tb.sc (Tb.grp (c R).lg) (gn (c R) x.n : Nat) x.i, laidw (c k), Rd.val (B (laidw (c k) / 8))⟩ := by
  obtain ⟨y, hy, ho⟩ := found h.gi hk (h.fin k hk) (h.lay k hk) (h.room k hk)
  have h3 := h.first k hk hmin
  have ey : y = laidw (c k) := by rcases ho with e | e; omega; exact e.2
  subst ey
  have hli := hg.li R (by omega)
  rw [upd_same] at hli
  exact look_yes (hg.ok R (by omega)) hli hf hx hl hy hkey hh hlg
/-- What nobody laid is absent. -/
theorem look_none (h : Laid B G t R c s) (hg : Gi B G t (R + 1) c (upd s R x)) (hx : x.p = 0) (hl : (c R).lay = 0) (hno : ∀ k, k < R → (c k).key ≠ (c R).key) : x.f = ⟨1, 0, 0, []⟩ := by
  have := look_no hg (r := R) (by omega) (by rw [upd_same]; exact hx) hl (fun k hk hlk => by
    by_cases e : k = R
    · subst e; exact absurd hl hlk
    · exact hno k (by omega))
  rw [upd_same] at this
  exact this
end
/-! ### several at once, all ended: one slot a key -/
section
variable {B : Nat → List Nat} {G : Nat} {t : Tv} {R : Nat} {c : Nat → C} {s : Nat → S}
/-- What SeekOnce says of seeks that have all ended. -/
theorem once (h : Gi B G t R c s) (hend : ∀ r, r < R → (s r).p = 0) (hlay : ∀ r, r < R → (c r).lay ≠ 0) (hR : R ≤ 8 * G) (hlg : ∀ r, r < R → 0 ≤ (c r).lg ∧ (c r).lg ≤ 9) (hl : ∀ r k, r < R → k < R → (c r).lg = (c k).lg) (hh : ∀ r k, r < R → k < R → (c r).key = (c k).key → (c r).h = (c k).h) (hinj : ∀ r k, r < R → k < R → laidw (c r) = laidw (c k) → r = k) :
    (∀ r, r < R → (s r).f.k = 2 ∨ (s r).f.k = 3) ∧ (∀ r k, r < R → k < R → ((c r).key = (c k).key → (s r).f.c = (s k).f.c ∧ (s r).f.w = (s k).f.w) ∧ ((c r).key ≠ (c k).key → (s r).f.c ≠ (s k).f.c)) ∧ ∀ r, r < R → ∃ q, q < R ∧ (c q).key = (c r).key ∧ (s q).f.k = 3 ∧ ∀ k, k < R → (c k).key = (c r).key → (s k).f.k = 3 → k = q := by
  have fd : ∀ r, r < R → ∃ x, Fd B t (c r) (s r) x ∧ ((s r).f.k = 2 ∨ (s r).f.k = 3 ∧ x = laidw (c r)) := fun r hr => found h hr (hend r hr) (hlay r hr) (full_no h hR hr (hlg r hr).1 (hlg r hr).2 (hend r hr))
  refine ⟨fun r hr => ?_, fun r k hr hk => ⟨fun e => ?_, fun e => ?_⟩, fun r hr => ?_⟩
  · obtain ⟨x, -, a | a⟩ := fd r hr
    · exact .inl a
    · exact .inr a.1
  · obtain ⟨x, hx, -⟩ := fd r hr
    obtain ⟨y, hy, -⟩ := fd k hk
    obtain ⟨-, -, -, a, b⟩ := fd_same hx hy e (hh r k hr hk e) (hl r k hr hk)
    exact ⟨a, b⟩
  · obtain ⟨x, hx, -⟩ := fd r hr
    obtain ⟨y, hy, -⟩ := fd k hk
    exact fd_other hx hy e (hl r k hr hk)
  · obtain ⟨x, hx, -⟩ := fd r hr
    obtain ⟨q, hq, -, -, h3, hkey, hw⟩ := fd_laid h hx
    refine ⟨q, hq, hkey, h3, fun k hk e e3 => ?_⟩
    obtain ⟨y, hy, ho⟩ := fd k hk
    have ey : y = laidw (c k) := by rcases ho with a | a; omega; exact a.2
    obtain ⟨-, -, a, -, -⟩ := fd_same hx hy e.symm (hh r k hr hk e.symm) (hl r k hr hk)
    exact hinj k q hk hq (by rw [← ey, ← a, hw])
end
end Go.Proofs.YtknefjigdlbacaaGreatDoor.Sk
set_option linter.unusedVariables false
set_option linter.unusedSimpArgs false
namespace Go.Proofs.YtknefjigdlbacaaGreatDoor.Sk
open Go.Proofs.YtknefjigdlbacaaGreatDoor Ln
/-- The words of box b: of key b - 3 with its value; nothing, if there is none. -/
def bK (n : Nat) (ks vs : Nat → List UInt8) (b : Nat) : List Nat := if 3 ≤ b ∧ b < 3 + n then Kr.bx (ks (b - 3)) (vs (b - 3)) else []
/-- Who lays box 3 + r. -/
def cK (th : Nat → Nat) (nn kp : Int) (sd : Nat) (lg : Int) (ks : Nat → List UInt8) (r : Nat) : C := ⟨1, th r, nn, kp, sd, 2, lg, ks r, Mx.hsh sd (ks r), 3 + r⟩
/-- Who looks for a key. -/
def cL (th : Nat) (nn kp : Int) (sd : Nat) (lg : Int) (key : List UInt8) : C := ⟨1, th, nn, kp, sd, 2, lg, key, Mx.hsh sd key, 0⟩
section
variable {n : Nat} {ks vs : Nat → List UInt8} {th : Nat → Nat} {nn kp : Int} {sd : Nat} {lg : Int}
theorem bK_at {r : Nat} (hr : r < n) : bK n ks vs (3 + r) = Kr.bx (ks r) (vs r) := by
  unfold bK
  rw [if_pos (by omega), show 3 + r - 3 = r by omega]
theorem bK_len (hk : ∀ r, r < n → (ks r).length ≤ 16) (hv : ∀ r, r < n → (vs r).length ≤ 24) (b : Nat) : (bK n ks vs b).length ≤ 6 := by
  unfold bK
  split
  · rw [← Rd.sz_bx (hk _ (by omega)) (hv _ (by omega))]
    exact (Rd.sz_bd _).2
  · exact Nat.zero_le _
theorem bK_wds (b : Nat) : ∀ x ∈ bK n ks vs b, x < 18446744073709551616 := by
  unfold bK
  split
  · exact Rd.bx_wf _ _
  · intro x hx; cases hx
theorem laidw_K (r : Nat) (hr : r < 1000000) : laidw (cK th nn kp sd lg ks r) = 8 * (3 + r) + 1 := by
  show ((3 + r) * 8 + 1) % 18446744073709551616 = _
  omega
theorem laidw_K8 (r : Nat) (hr : r < 1000000) : laidw (cK th nn kp sd lg ks r) / 8 = 3 + r := by rw [laidw_K r hr]; omega
theorem lay_K (hn : n ≤ 1000) (hk : ∀ r, r < n → (ks r).length ≤ 16) (hv : ∀ r, r < n → (vs r).length ≤ 24) {r : Nat} (hr : r < n) :
    laidw (cK th nn kp sd lg ks r) % 8 = 1 ∧ 8 ≤ laidw (cK th nn kp sd lg ks r) ∧ Rd.sz (bK n ks vs (laidw (cK th nn kp sd lg ks r) / 8)) = (bK n ks vs (laidw (cK th nn kp sd lg ks r) / 8)).length ∧ Own (bK n ks vs) (cK th nn kp sd lg ks r) (laidw (cK th nn kp sd lg ks r)) := by
  have e := laidw_K (th := th) (nn := nn) (kp := kp) (sd := sd) (lg := lg) (ks := ks) r (by omega)
  have e8 := laidw_K8 (th := th) (nn := nn) (kp := kp) (sd := sd) (lg := lg) (ks := ks) r (by omega)
  refine ⟨by rw [e]; omega, by rw [e]; omega, ?_, ?_⟩
  · rw [e8, bK_at hr]
    exact Rd.sz_bx (hk r hr) (hv r hr)
  · unfold Own
    rw [e8, bK_at hr]
    exact Rd.key_bx (hk r hr) (hv r hr)
theorem val_K (hk : ∀ r, r < n → (ks r).length ≤ 16) (hv : ∀ r, r < n → (vs r).length ≤ 24) {r : Nat} (hr : r < n) (hn : n ≤ 1000) : Rd.val (bK n ks vs (laidw (cK th nn kp sd lg ks r) / 8)) = vs r := by
  rw [laidw_K8 r (by omega), bK_at hr]
  exact Rd.val_bx (hk r hr) (hv r hr)
theorem ok_K {r : Nat} (ht : th r ≤ 63) (hl : 1 ≤ Tb.grp lg) (hr : r < 1000000) : Ok (cK th nn kp sd lg ks r) :=
  ⟨ht, by show 2 < _; omega, hl, Mx.hsh_lt _ _, by show 3 + r < _; omega⟩
theorem ok_L {t : Nat} {key : List UInt8} (ht : t ≤ 63) (hl : 1 ≤ Tb.grp lg) : Ok (cL t nn kp sd lg key) :=
  ⟨ht, by show 2 < _; omega, hl, Mx.hsh_lt _ _, by show 0 < _; omega⟩
theorem inj_K {r k : Nat} (hr : r < 1000000) (hk : k < 1000000) (h : laidw (cK th nn kp sd lg ks r) = laidw (cK th nn kp sd lg ks k)) : r = k := by
  rw [laidw_K r hr, laidw_K k hk] at h
  omega
theorem gi_congr {B : Nat → List Nat} {G : Nat} {t : Tv} {R : Nat} {c c' : Nat → C} {s s' : Nat → S} (h : Gi B G t R c s) (hc : ∀ r, r < R → c' r = c r) (hs : ∀ r, r < R → s' r = s r) : Gi B G t R c' s' :=
  ⟨fun r hr => by rw [hc r hr]; exact h.ok r hr, fun r hr => by rw [hc r hr]; exact h.grp r hr, fun r hr => by rw [hc r hr]; exact h.lay r hr, fun r hr => by rw [hc r hr, hs r hr]; exact h.wf r hr, fun r hr => by rw [hc r hr, hs r hr]; exact h.li r hr, h.ci,
    fun g j hg hj h0 => by
      obtain ⟨r, hr, a, b⟩ := h.held g j hg hj h0
      exact ⟨r, hr, by rw [hs r hr]; exact a, by rw [hc r hr, hs r hr]; exact b⟩,
    fun g j hj h0 => by
      obtain ⟨r, hr, a, b, d⟩ := h.laid g j hj h0
      exact ⟨r, hr, by rw [hs r hr]; exact a, by rw [hs r hr]; exact b, by rw [hc r hr, hs r hr]; exact d⟩⟩
theorem laid_congr {B : Nat → List Nat} {G : Nat} {t : Tv} {R : Nat} {c c' : Nat → C} {s s' : Nat → S} (h : Laid B G t R c s) (hc : ∀ r, r < R → c' r = c r) (hs : ∀ r, r < R → s' r = s r) : Laid B G t R c' s' :=
  ⟨gi_congr h.gi hc hs, fun r hr => by rw [hs r hr]; exact h.fin r hr, fun r hr => by rw [hc r hr]; exact h.lay r hr, fun r hr => by rw [hs r hr]; exact h.room r hr, fun r hr hf => by
    rw [hs r hr]
    refine h.first r hr fun k hk => ?_
    have := hf k hk
    rw [hc r hr, hc k (by omega)] at this
    exact this⟩
/-- The seeks of the keys, and one who looks. -/
def cKL (R th' : Nat) (key : List UInt8) (th : Nat → Nat) (nn kp : Int) (sd : Nat) (lg : Int) (ks : Nat → List UInt8) (r : Nat) : C := if r = R then cL th' nn kp sd lg key else cK th nn kp sd lg ks r
theorem cKL_R {R th' : Nat} {key : List UInt8} : cKL R th' key th nn kp sd lg ks R = cL th' nn kp sd lg key := if_pos rfl
theorem cKL_ne {R th' r : Nat} {key : List UInt8} (h : r ≠ R) : cKL R th' key th nn kp sd lg ks r = cK th nn kp sd lg ks r := if_neg h
theorem env_K {nn' : Nat} (hn : n ≤ 1000) (h64 : nn' ≤ 64) (ht : ∀ r, r < n → th r < nn') (hk : ∀ r, r < n → (ks r).length ≤ 16) (hv : ∀ r, r < n → (vs r).length ≤ 24) {R nb : Nat} (hR : R ≤ n) (hnb : nb = 2 + R) : Env (bK n ks vs) nn' nb R (cK th nn kp sd lg ks) :=
  ⟨fun _ _ => rfl, fun _ _ => rfl, fun r hr => ht r (by omega), h64, by omega, bK_len hk hv, bK_wds, fun r hr _ => by rw [laidw_K8 r (by omega)]; omega⟩
theorem env_KL {nn' th' : Nat} {key : List UInt8} (hn : n ≤ 1000) (h64 : nn' ≤ 64) (ht : ∀ r, r < n → th r < nn') (ht' : th' < nn') (hk : ∀ r, r < n → (ks r).length ≤ 16) (hv : ∀ r, r < n → (vs r).length ≤ 24) : Env (bK n ks vs) nn' (2 + n) (n + 1) (cKL n th' key th nn kp sd lg ks) := by
  refine ⟨fun r hr => ?_, fun r hr => ?_, fun r hr => ?_, h64, by omega, bK_len hk hv, bK_wds, fun r hr hl => ?_⟩
  all_goals by_cases e : r = n
  · subst e; rw [cKL_R]; rfl
  · rw [cKL_ne e]; rfl
  · subst e; rw [cKL_R]; rfl
  · rw [cKL_ne e]; rfl
  · subst e; rw [cKL_R]; exact ht'
  · rw [cKL_ne e]; exact ht r (by omega)
  · subst e; rw [cKL_R] at hl; exact absurd rfl hl
  · rw [cKL_ne e, laidw_K8 r (by omega)]; omega
end
end Go.Proofs.YtknefjigdlbacaaGreatDoor.Sk
set_option linter.unusedVariables false
set_option linter.unusedSimpArgs false
namespace Go.Proofs.YtknefjigdlbacaaGreatDoor.Sk
open Go.Proofs.YtknefjigdlbacaaGreatDoor Ln
section
variable {n nn G m : Nat} {ks vs : Nat → List UInt8} {th : Nat → Nat} {tn kp : Int} {sd : Nat} {lg : Int} {t : Tv} {M : Mm.Mem} {s : Nat → S}
/-- What stays as it is while keys are laid and looked for. -/
structure Fix (n nn G : Nat) (ks vs : Nat → List UInt8) (th : Nat → Nat) (lg : Int) : Prop where
  nm : n ≤ 1000
  room : n ≤ 8 * G
  n64 : nn ≤ 64
  th : ∀ r, r < n → th r < nn
  ks : ∀ r, r < n → (ks r).length ≤ 16
  vs : ∀ r, r < n → (vs r).length ≤ 24
  grp : Tb.grp lg = G
  g1 : 1 ≤ G
  g2 : G ≤ 2
  lg0 : 0 ≤ lg
  lg9 : lg ≤ 9
/-- A key laid. -/
theorem lay_one (f : Fix n nn G ks vs th lg) {i : Nat} (hi : i < n) (h : Laid (bK n ks vs) G t i (cK th tn kp sd lg ks) s) (hs : See (bK n ks vs) G nn (2 + (i + 1)) m t M) (hw : Wb t) (hm : m + 600 < 1000000000) :
    ∃ N t', N ≤ 600 ∧ Done (bK n ks vs) G nn (2 + (i + 1)) m (i + 1) t M (cK th tn kp sd lg ks) (upd s i (start (cK th tn kp sd lg ks i) false)) i N t' ∧ Laid (bK n ks vs) G t' (i + 1) (cK th tn kp sd lg ks) (upd s i (cr (cK th tn kp sd lg ks i) (start (cK th tn kp sd lg ks i) false, M) N).1) := by
  have hG := f.grp
  have g1 := f.g1
  have g2 := f.g2
  have hth := f.th i hi
  have h64 := f.n64
  have hg := gi_new (chk := false) h.gi (ok_K (ks := ks) (nn := tn) (kp := kp) (sd := sd) (by omega) (by omega) (by have := f.nm; omega)) hG (fun _ => lay_K f.nm f.ks f.vs hi) (.inr rfl)
  have E : Env (bK n ks vs) nn (2 + (i + 1)) (i + 1) (cK th tn kp sd lg ks) := env_K f.nm f.n64 f.th f.ks f.vs (by omega) rfl
  have hwf := hg.wf i (by omega)
  have hmu := mu_le hwf ((hg.li i (by omega)).p2)
  have hmu : mu (cK th tn kp sd lg ks i) (upd s i (start (cK th tn kp sd lg ks i) false) i) ≤ 600 := by
    have e : Tb.grp (cK th tn kp sd lg ks i).lg = G := hG
    rw [e] at hmu
    omega
  obtain ⟨N, t', hN, D⟩ := done_any E (r := i) (by omega) 600 m t M _ hmu hg hs hw (fun e => absurd e (by show 3 + i ≠ 0; omega)) hm
  have gi := D.gi
  have fin := D.fin
  rw [upd_upd, upd_same] at gi
  rw [upd_same] at fin
  exact ⟨N, t', hN, D, laid_next h gi fin (by show 3 + i ≠ 0; omega) (by have := f.room; omega) ⟨f.lg0, f.lg9⟩⟩
/-- A key looked for. -/
theorem look_one (f : Fix n nn G ks vs th lg) (h : Laid (bK n ks vs) G t n (cK th tn kp sd lg ks) s) (hs : See (bK n ks vs) G nn (2 + n) m t M) (hw : Wb t) (hm : m + 600 < 1000000000) {th' : Nat} (hth : th' < nn) (key : List UInt8) (chk : Bool) :
    ∃ N, N ≤ 600 ∧ Done (bK n ks vs) G nn (2 + n) m (n + 1) t M (cKL n th' key th tn kp sd lg ks) (upd s n (start (cL th' tn kp sd lg key) chk)) n N t ∧
      (∀ k, k < n → (∀ r, r < k → ks r ≠ ks k) → key = ks k → ∃ y w, (cr (cL th' tn kp sd lg key) (start (cL th' tn kp sd lg key) chk, M) N).1.f = ⟨2, y, w, vs k⟩) ∧
      ((∀ k, k < n → ks k ≠ key) → (cr (cL th' tn kp sd lg key) (start (cL th' tn kp sd lg key) chk, M) N).1.f = ⟨1, 0, 0, []⟩) := by
  have hG := f.grp
  have g1 := f.g1
  have g2 := f.g2
  have h64 := f.n64
  have h' : Laid (bK n ks vs) G t n (cKL n th' key th tn kp sd lg ks) s := laid_congr h (fun r hr => cKL_ne (by omega)) (fun _ _ => rfl)
  have eR : cKL n th' key th tn kp sd lg ks n = cL th' tn kp sd lg key := cKL_R
  have hg := gi_new (chk := chk) h'.gi (by rw [eR]; exact ok_L (by omega) (by omega)) (by rw [eR]; exact hG) (fun e => absurd (by rw [eR]; rfl) e) (.inl (by rw [eR]; rfl))
  rw [eR] at hg
  have E : Env (bK n ks vs) nn (2 + n) (n + 1) (cKL n th' key th tn kp sd lg ks) := env_KL f.nm f.n64 f.th hth f.ks f.vs
  have hwf := hg.wf n (by omega)
  have hmu := mu_le hwf ((hg.li n (by omega)).p2)
  have hmu : mu (cKL n th' key th tn kp sd lg ks n) (upd s n (start (cL th' tn kp sd lg key) chk) n) ≤ 600 := by
    have e : Tb.grp (cKL n th' key th tn kp sd lg ks n).lg = G := by rw [eR]; exact hG
    rw [e] at hmu
    omega
  obtain ⟨N, t', hN, D⟩ := done_any E (r := n) (by omega) 600 m t M _ hmu hg hs hw (fun _ g j hgG hj h0 => h'.all (by rw [eR] at hgG; exact (show g < G from hG ▸ hgG)) hj h0) hm
  obtain ⟨et, hfx⟩ := D.fx (by rw [eR]; rfl)
  subst et
  have gi := D.gi
  have fin := D.fin
  have hfx := hfx (by rw [upd_same, eR]; exact fx_start _ _ _)
  rw [upd_upd, upd_same, eR] at gi
  rw [upd_same, eR] at fin
  rw [upd_same, eR] at hfx
  refine ⟨N, hN, D, fun k hk hmin hkey => ?_, fun hno => ?_⟩
  · have := look_first h' gi fin (by rw [eR]; rfl) (by rw [eR]; exact hfx) hk (fun r hr => by rw [cKL_ne (by omega), cKL_ne (by omega)]; exact hmin r hr) (by rw [eR, cKL_ne (by omega)]; exact hkey) (by rw [eR, cKL_ne (by omega)]; show Mx.hsh sd key = Mx.hsh sd (ks k); rw [hkey]) (by rw [eR, cKL_ne (by omega)]; rfl)
    rw [cKL_ne (show k ≠ n by omega), val_K f.ks f.vs hk f.nm] at this
    exact ⟨_, _, this⟩
  · exact look_none h' gi fin (by rw [eR]; rfl) (fun k hk => by rw [eR, cKL_ne (by omega)]; exact hno k hk)
end
end Go.Proofs.YtknefjigdlbacaaGreatDoor.Sk
