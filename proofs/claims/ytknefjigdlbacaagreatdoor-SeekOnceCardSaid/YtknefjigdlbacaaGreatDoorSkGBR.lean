/-
  Several texts in one: SeekFinds' arena between the rounds of its loops; what a round of each comes to; Seeks that come between one another, as picks say; then each alone. Plain mathematics; Many seeks on one arena, and rows that lie apart from them. By an AI agent.
-/
import Derived.Test.YtknefjigdlbacaaGreatDoorSkGBM
import Derived.Test.YtknefjigdlbacaaGreatDoorSkGBN
import Derived.Test.YtknefjigdlbacaaGreatDoorSkGBQ
import Derived.Maps.AppendAt
set_option linter.unusedSimpArgs false
set_option linter.unusedVariables false
namespace Go.Proofs.YtknefjigdlbacaaGreatDoor
open Go.RowKit Go.Maps
open Mm (Mem Blk)
open Ac (A)
/-- A course that is known: its states, its answers, its memories. -/
def Runs (c : Sk.C) (x : Sk.S × Mem) (N : Nat) : Prop :=
  Course c (fun k => (cr c x k).1) (fun k => Mm.ans (cr c x k).2 (Sk.act c (cr c x k).1)) N ∧ ∀ k, k < N → DoesIt (cr c x k).2 (Sk.act c (cr c x k).1) (Mm.ans (cr c x k).2 (Sk.act c (cr c x k).1) : Nat) (cr c x (k + 1)).2
theorem done_runs {B : Nat → List Nat} {G nn nb m R : Nat} {t : Sk.Tv} {M : Mem} {c : Nat → Sk.C} {s : Nat → Sk.S} {r N : Nat} {t' : Sk.Tv} (D : Sk.Done B G nn nb m R t M c s r N t') : Runs (c r) (s r, M) N :=
  ⟨⟨D.wf, fun _ _ => rfl, fun k hk => (D.go k hk).2.2.1, fun k hk => (D.go k hk).1, D.fin, fun k hk => (D.go k hk).2.2.2⟩, fun k hk => by
    obtain ⟨ws, h⟩ := (D.go k hk).2.1
    exact does_it h⟩
/-- Alone, on a course that is known. -/
theorem alone_runs {B : Nat} {w : World} {p q N : Nat} {c : Sk.C} {s0 : Sk.S} {M : Mem} {F H : Nat → Prop} (hi : Sit c) (hr : Runs c (s0, M) N) (ha : Ax B w p M F) (hk : Ks B w q c s0 H) (hap : ∀ k, H k → ¬ F k) (hbd : Bd w) (hlow : 0 < B) (hB : B ≤ w.heap.size) (hN : N ≤ 1000) (most : Int) (hmost : (N : Int) ≤ most) :
    Calls Tryz.prog 17 #[.pointer (some ⟨p, 0, none⟩), rvk q, .int .i64 most] w (Sran B p q c (cr c (s0, M) N).1 N (cr c (s0, M) N).2 F H w) :=
  skalone (s := fun k => (cr c (s0, M) k).1) (Sm := fun k => (cr c (s0, M) k).2) hi hr.1 ha hk hap hbd hlow hB hN hr.2 most hmost
open Sk
section
variable {n nn G m : Nat} {ks vs : Nat → List UInt8} {th : Nat → Nat} {tn kp : Int} {sd : Nat} {lg : Int} {M : Mem}
/-- The arena, with i keys laid. -/
structure FsM (n nn G : Nat) (ks vs : Nat → List UInt8) (th : Nat → Nat) (tn kp : Int) (sd : Nat) (lg : Int) (i m : Nat) (M : Mem) : Prop where
  ex : ∃ t m' s, Laid (bK n ks vs) G t i (cK th tn kp sd lg ks) s ∧ See (bK n ks vs) G nn (2 + i) m' t M ∧ Wb t ∧ m' ≤ m
  last : M.last = 2 + i
  faults : M.faults = 0
  room : M.room = 600
  used : Mm.used M.L ≤ 155 + 6 * i
theorem fsm_zero (f : Fix n nn G ks vs th lg) {dn tl lgn : Nat} (hd : dn = 2 + 2 * nn) (ht : tl = 7 + 9 * G) (h1 : 1 ≤ nn) : FsM n nn G ks vs th tn kp sd lg 0 0 (Fm 600 dn tl lgn) := by
  have h64 := f.n64
  have g2 := f.g2
  refine ⟨⟨t0, 0, fun r => Sk.start (cK th tn kp sd lg ks r) false, laid_zero _ _ _ _, ?_, wb_zero, Nat.le_refl _⟩, rfl, rfl, rfl, ?_⟩
  · have l1 : ((List.replicate dn (0 : Int)).set 0 2).length = dn := by rw [List.length_set, List.length_replicate]
    refine see_zero (M := Fm 600 dn tl lgn) (ds := ((List.replicate dn 0).set 0 2).set 1 16) (ts := (List.replicate tl 0).set 0 (lgn : Int)) _ rfl rfl ?_ (fun j => ?_) ?_ ?_ (fun j hj => ?_)
    · rw [List.length_set, l1]; exact hd
    · rw [getD_set _ _ _ (by omega)]
      split
      · omega
      · rw [getD_set _ _ _ (by rw [List.length_replicate]; omega)]
        split
        · omega
        · rw [getD_rep]; omega
    · rw [List.length_set, List.length_replicate]; exact ht
    · rw [getD_set _ _ _ (by rw [List.length_replicate]; omega), if_pos rfl]; omega
    · rw [getD_set _ _ _ (by rw [List.length_replicate]; omega), if_neg (by omega), getD_rep]
  · show Mm.used [(1, ((List.replicate dn (0 : Int)).set 0 2).set 1 16), (2, (List.replicate tl 0).set 0 (lgn : Int))] ≤ _
    simp only [Mm.used, List.length_set, List.length_replicate]
    omega
/-- A key laid. -/
theorem fsm_lay (f : Fix n nn G ks vs th lg) {i : Nat} (hi : i < n) (h : FsM n nn G ks vs th tn kp sd lg i m M) (hG : Mm.Good M) (hm : m + 600 < 1000000000) :
    ∃ N, N ≤ 600 ∧ Runs (cK th tn kp sd lg ks i) (Sk.start (cK th tn kp sd lg ks i) false, Smx M (Kr.up (Kr.bx (ks i) (vs i)))) N ∧ FsM n nn G ks vs th tn kp sd lg (i + 1) (m + 600) (cr (cK th tn kp sd lg ks i) (Sk.start (cK th tn kp sd lg ks i) false, Smx M (Kr.up (Kr.bx (ks i) (vs i)))) N).2 := by
  obtain ⟨t, m', s, hL, hS, hw, hmm⟩ := h.ex
  have hs' : See (bK n ks vs) G nn (2 + i + 1) m' t (Smx M (Kr.up (Kr.bx (ks i) (vs i)))) := by
    refine see_box (nb := 2 + i) hS ?_ ?_ (by omega)
    · show M.L ++ [(M.last + 1, Kr.up (Kr.bx (ks i) (vs i)))] = M.L ++ [(2 + i + 1, Kr.up (bK n ks vs (2 + i + 1)))]
      rw [h.last, show 2 + i + 1 = 3 + i by omega, bK_at hi]
    · have := Mm.new_get M hG
      rwa [h.last] at this
  obtain ⟨N, t', hN, D, hL'⟩ := lay_one f hi hL hs' hw (by omega)
  have hr := done_runs D
  have hsee := D.see
  have hwb := D.wb
  rw [upd_same] at hr hsee
  have K := keep_cr (cK th tn kp sd lg ks i) (Sk.start (cK th tn kp sd lg ks i) false, Smx M (Kr.up (Kr.bx (ks i) (vs i)))) N
  refine ⟨N, hN, hr, ⟨t', m' + N, _, hL', hsee, hwb, by omega⟩, ?_, ?_, ?_, ?_⟩
  · rw [K.last]; show M.last + 1 = _; rw [h.last]; omega
  · rw [K.faults]; exact h.faults
  · rw [K.room]; exact h.room
  · rw [K.used]
    show Mm.used (M.L ++ [(M.last + 1, _)]) ≤ _
    rw [Mm.used_append]
    have := (bx_bd (f.ks i hi) (f.vs i hi)).2
    have := h.used
    simp only [Mm.used, Kr.up_len]
    omega
/-- A key looked for. -/
theorem fsm_look (f : Fix n nn G ks vs th lg) (h : FsM n nn G ks vs th tn kp sd lg n m M) (hm : m + 600 < 1000000000) {th' : Nat} (hth : th' < nn) (key : List UInt8) (chk : Bool) :
    ∃ N, N ≤ 600 ∧ Runs (cL th' tn kp sd lg key) (Sk.start (cL th' tn kp sd lg key) chk, M) N ∧ FsM n nn G ks vs th tn kp sd lg n (m + 600) (cr (cL th' tn kp sd lg key) (Sk.start (cL th' tn kp sd lg key) chk, M) N).2 ∧
      (∀ k, k < n → (∀ r, r < k → ks r ≠ ks k) → key = ks k → ∃ y w, (cr (cL th' tn kp sd lg key) (Sk.start (cL th' tn kp sd lg key) chk, M) N).1.f = ⟨2, y, w, vs k⟩) ∧
      ((∀ k, k < n → ks k ≠ key) → (cr (cL th' tn kp sd lg key) (Sk.start (cL th' tn kp sd lg key) chk, M) N).1.f = ⟨1, 0, 0, []⟩) := by
  obtain ⟨t, m', s, hL, hS, hw, hmm⟩ := h.ex
  obtain ⟨N, hN, D, h1, h2⟩ := look_one f hL hS hw (m := m') (by omega) hth key chk
  have hr := done_runs D
  have hsee := D.see
  have eR : cKL n th' key th tn kp sd lg ks n = cL th' tn kp sd lg key := cKL_R
  rw [upd_same, eR] at hr hsee
  have K := keep_cr (cL th' tn kp sd lg key) (Sk.start (cL th' tn kp sd lg key) chk, M) N
  exact ⟨N, hN, hr, ⟨⟨t, m' + N, s, hL, hsee, hw, by omega⟩, by rw [K.last]; exact h.last, by rw [K.faults]; exact h.faults, by rw [K.room]; exact h.room, by rw [K.used]; exact h.used⟩, h1, h2⟩
/-- What the sites may be. -/
theorem sit_K (f : Fix n nn G ks vs th lg) {i : Nat} (hi : i < n) (hr : Dk.right 1 (th i : Int) tn kp = true) : Sit (cK th tn kp sd lg ks i) := by
  have := f.th i hi
  have := f.n64
  have g1 := f.g1
  have g := f.grp
  have := f.nm
  refine ⟨ok_K (by omega) (by omega) (by omega), ?_, hr⟩
  show Tb.right ((2 : Nat) : Int) (Tb.grp lg) = true
  unfold Tb.right
  simp
  omega
theorem sit_L (f : Fix n nn G ks vs th lg) {th' : Nat} (hth : th' < nn) {key : List UInt8} (hr : Dk.right 1 (th' : Int) tn kp = true) : Sit (cL th' tn kp sd lg key) := by
  have := f.n64
  have g1 := f.g1
  have g := f.grp
  refine ⟨ok_L (by omega) (by omega), ?_, hr⟩
  show Tb.right ((2 : Nat) : Int) (Tb.grp lg) = true
  unfold Tb.right
  simp
  omega
end
end Go.Proofs.YtknefjigdlbacaaGreatDoor
set_option linter.unusedVariables false
set_option linter.unusedSimpArgs false
namespace Go.Proofs.YtknefjigdlbacaaGreatDoor.Sk
open Go.Proofs.YtknefjigdlbacaaGreatDoor Ln
/-- One act of seek r, if it has not ended. -/
def act1 (c : Nat → C) (x : (Nat → S) × Mm.Mem) (r : Nat) : (Nat → S) × Mm.Mem :=
  if (x.1 r).p = 0 then x else (upd x.1 r (step (c r) (x.1 r) (Mm.ans x.2 (act (c r) (x.1 r)))), Mm.aft x.2 (act (c r) (x.1 r)))
section
variable {B : Nat → List Nat} {G nn nb m R : Nat} {t : Tv} {M : Mm.Mem} {c : Nat → C} {s : Nat → S}
/-- What holds between any two acts. -/
structure Mid (B : Nat → List Nat) (G nn nb m R : Nat) (c : Nat → C) (M0 : Mm.Mem) (x : (Nat → S) × Mm.Mem) : Prop where
  ex : ∃ t, Gi B G t R c x.1 ∧ See B G nn nb m t x.2 ∧ Wb t
  keep : Keep M0 x.2
theorem Mid.up {M0 : Mm.Mem} {x : (Nat → S) × Mm.Mem} (h : Mid B G nn nb m R c M0 x) : Mid B G nn nb (m + 1) R c M0 x := by
  obtain ⟨⟨t, a, b, d⟩, k⟩ := h
  exact ⟨⟨t, a, b.up, d⟩, k⟩
theorem mid_act (E : Env B nn nb R c) {M0 : Mm.Mem} {x : (Nat → S) × Mm.Mem} (h : Mid B G nn nb m R c M0 x) {r : Nat} (hr : r < R) (hl : (c r).lay ≠ 0) (hm : m < 1000000000) : Mid B G nn nb (m + 1) R c M0 (act1 c x r) := by
  unfold act1
  split
  · exact h.up
  · rename_i hp
    obtain ⟨⟨t, a, b, d⟩, k⟩ := h
    have g := go1 E a b d hr hp (fun e => absurd e hl) hm
    exact ⟨⟨_, g.gi, g.see, g.wb⟩, k.trans (keep_aft _ _)⟩
/-- One more done alone, to its end. -/
theorem mid_alone (E : Env B nn nb R c) {M0 : Mm.Mem} {x : (Nat → S) × Mm.Mem} (h : Mid B G nn nb m R c M0 x) {r : Nat} (hr : r < R) (hl : (c r).lay ≠ 0) (hG : G ≤ 2) (hm : m + 600 < 1000000000) :
    ∃ N t t', N ≤ 600 ∧ Done B G nn nb m R t x.2 c x.1 r N t' ∧ Mid B G nn nb (m + N) R c M0 (upd x.1 r (cr (c r) (x.1 r, x.2) N).1, (cr (c r) (x.1 r, x.2) N).2) := by
  obtain ⟨⟨t, a, b, d⟩, k⟩ := h
  have hmu := mu_le (a.wf r hr) (a.li r hr).p2
  rw [a.grp r hr] at hmu
  obtain ⟨N, t', hN, D⟩ := done_any E hr 600 m t x.2 x.1 (by omega) a b d (fun e => absurd e hl) hm
  exact ⟨N, t, t', hN, D, ⟨⟨t', D.gi, D.see, D.wb⟩, k.trans (keep_cr (c r) (x.1 r, x.2) N)⟩⟩
/-- The others stay as they are. -/
theorem alone_others {x : (Nat → S) × Mm.Mem} {r k N : Nat} (hk : k ≠ r) : upd x.1 r (cr (c r) (x.1 r, x.2) N).1 k = x.1 k := upd_ne hk
end
end Go.Proofs.YtknefjigdlbacaaGreatDoor.Sk
set_option linter.unusedSimpArgs false
set_option linter.unusedVariables false
namespace Go.Proofs.YtknefjigdlbacaaGreatDoor
open Go.RowKit Go.Maps
open Mm (Mem Blk)
open Ac (A)
/-- All blocks of an arena and of n seeks. -/
def Tots (n : Nat) (F : Nat → Prop) (H : Nat → Nat → Prop) (k : Nat) : Prop := F k ∨ ∃ i, i < n ∧ H i k
def updH (H : Nat → Nat → Prop) (i : Nat) (x : Nat → Prop) (j : Nat) : Nat → Prop := if j = i then x else H j
theorem updH_same (H : Nat → Nat → Prop) (i : Nat) (x : Nat → Prop) : updH H i x i = x := if_pos rfl
theorem updH_ne {H : Nat → Nat → Prop} {i j : Nat} {x : Nat → Prop} (h : j ≠ i) : updH H i x j = H j := if_neg h
def updq (q : Nat → Nat) (i x : Nat) (j : Nat) : Nat := if j = i then x else q j
theorem updq_same (q : Nat → Nat) (i x : Nat) : updq q i x i = x := if_pos rfl
theorem updq_ne {q : Nat → Nat} {i j x : Nat} (h : j ≠ i) : updq q i x j = q j := if_neg h
/-- An arena and n seeks, apart from one another. -/
structure Sms (B : Nat) (w : World) (p : Nat) (M : Mem) (n : Nat) (q : Nat → Nat) (c : Nat → Sk.C) (s : Nat → Sk.S) (F : Nat → Prop) (H : Nat → Nat → Prop) : Prop where
  ar : Ax B w p M F
  ro : ∀ i, i < n → Ks B w (q i) (c i) (s i) (H i)
  d0 : ∀ i, i < n → ∀ k, H i k → ¬ F k
  d1 : ∀ i j, i < n → j < n → i ≠ j → ∀ k, H i k → ¬ H j k
section
variable {B : Nat} {w W W' : World} {p n : Nat} {M M' : Mem} {q : Nat → Nat} {c : Nat → Sk.C} {s : Nat → Sk.S} {F F' : Nat → Prop} {H : Nat → Nat → Prop} {H' : Nat → Prop}
theorem Sms.foot (h : Sms B w p M n q c s F H) {k : Nat} (hk : Tots n F H k) : B ≤ k ∧ k < w.heap.size := by
  rcases hk with hk | ⟨i, hi, hk⟩
  · exact h.ar.foot hk
  · exact (h.ro i hi).foot hk
theorem Sms.keep (h : Sms B w p M n q c s F H) (hk : ∀ k, Tots n F H k → W'.heap[k]? = w.heap[k]?) : Sms B W' p M n q c s F H :=
  ⟨h.ar.keep fun k e => hk k (.inl e), fun i hi => (h.ro i hi).keep fun k e => hk k (.inr ⟨i, hi, e⟩), h.d0, h.d1⟩
theorem Sms.below (h : Sms B w p M n q c s F H) (hb : Below w.heap.size w W') : Sms B W' p M n q c s F H := h.keep fun k hk => hb.block k (h.foot hk).2
/-- One seek goes on. -/
theorem Sms.step (h : Sms B w p M n q c s F H) {i : Nat} (hi : i < n) {x : Sk.S} (ha : Ax B W p M' F') (hks : Ks B W (q i) (c i) x H') (hap : ∀ k, H' k → ¬ F' k) (ht : Tn (Or2 F (H i)) (Or2 F' H') w W) :
    Sms B W p M' n q c (Sk.upd s i x) F' (updH H i H') ∧ Tn (Tots n F H) (Tots n F' (updH H i H')) w W := by
  have hoth : ∀ j, j < n → j ≠ i → ∀ k, H j k → ¬ Or2 F (H i) k := fun j hj hne k hk e => e.elim (h.d0 j hj k hk) (h.d1 j i hj hi hne k hk)
  have hro : ∀ j, j < n → j ≠ i → Ks B W (q j) (c j) (s j) (H j) ∧ ∀ k, H j k → ¬ Or2 F' H' k := fun j hj hne =>
    ⟨(h.ro j hj).keep (fun k hk => ht.block k ((h.ro j hj).foot hk).2 (hoth j hj hne k hk)), fun k hk e => (ht.foot k e).elim (hoth j hj hne k hk) (fun e2 => by have := ((h.ro j hj).foot hk).2; omega)⟩
  refine ⟨⟨ha, fun j hj => ?_, fun j hj k hk => ?_, fun j1 j2 h1 h2 hne k hk => ?_⟩, ⟨ht.os, ht.tape, ht.output, ht.size, fun k hk hF => ht.block k hk (fun e => hF (e.elim .inl (fun e => .inr ⟨i, hi, e⟩))), fun k hk => ?_⟩⟩
  · by_cases e : j = i
    · subst e; rw [Sk.upd_same, updH_same]; exact hks
    · rw [Sk.upd_ne e, updH_ne e]; exact (hro j hj e).1
  · by_cases e : j = i
    · subst e; rw [updH_same] at hk; exact hap k hk
    · rw [updH_ne e] at hk; exact fun hf => (hro j hj e).2 k hk (.inl hf)
  · by_cases e1 : j1 = i
    · subst e1
      rw [updH_same] at hk
      rw [updH_ne (Ne.symm hne)]
      exact fun hh => (hro j2 h2 (Ne.symm hne)).2 k hh (.inr hk)
    · rw [updH_ne e1] at hk
      by_cases e2 : j2 = i
      · subst e2; rw [updH_same]; exact fun hh => (hro j1 h1 e1).2 k hk (.inr hh)
      · rw [updH_ne e2]; exact h.d1 j1 j2 h1 h2 hne k hk
  · rcases hk with hk | ⟨j, hj, hk⟩
    · exact (ht.foot k (.inl hk)).imp (fun e => e.elim .inl (fun e => .inr ⟨i, hi, e⟩)) id
    · by_cases e : j = i
      · subst e; rw [updH_same] at hk; exact (ht.foot k (.inr hk)).imp (fun e => e.elim .inl (fun e => .inr ⟨j, hj, e⟩)) id
      · rw [updH_ne e] at hk; exact .inl (.inr ⟨j, hj, hk⟩)
/-- The arena changes by itself. -/
theorem Sms.arena (h : Sms B w p M n q c s F H) (ha : Ax B W p M' F') (ht : Tn F F' w W) : Sms B W p M' n q c s F' H ∧ Tn (Tots n F H) (Tots n F' H) w W := by
  refine ⟨⟨ha, fun j hj => (h.ro j hj).keep (fun k hk => ht.block k ((h.ro j hj).foot hk).2 (h.d0 j hj k hk)), fun j hj k hk e => (ht.foot k e).elim (h.d0 j hj k hk) (fun e2 => by have := ((h.ro j hj).foot hk).2; omega), h.d1⟩, ⟨ht.os, ht.tape, ht.output, ht.size, fun k hk hF => ht.block k hk (fun e => hF (.inl e)), fun k hk => ?_⟩⟩
  rcases hk with hk | hk
  · exact (ht.foot k hk).imp .inl id
  · exact .inl (.inr hk)
/-- One seek more. -/
theorem Sms.new (h : Sms B w p M n q c s F H) {q1 : Nat} {x : Sk.S} (hks : Ks B W q1 (c n) x H') (hnew : ∀ k, H' k → w.heap.size ≤ k) (hb : Below w.heap.size w W) :
    Sms B W p M (n + 1) (updq q n q1) c (Sk.upd s n x) F (updH H n H') ∧ Tn (Tots n F H) (Tots (n + 1) F (updH H n H')) w W := by
  have h' := h.below hb
  have old : ∀ j, j < n + 1 → j ≠ n → j < n := fun j hj e => by omega
  refine ⟨⟨h'.ar, fun j hj => ?_, fun j hj k hk e => ?_, fun j1 j2 h1 h2 hne k hk => ?_⟩, ⟨hb.os, hb.tape, hb.output, hb.size, fun k hk hF => hb.block k hk, fun k hk => ?_⟩⟩
  · by_cases e : j = n
    · subst e; rw [updq_same, Sk.upd_same, updH_same]; exact hks
    · rw [updq_ne e, Sk.upd_ne e, updH_ne e]; exact h'.ro j (old j hj e)
  · by_cases e2 : j = n
    · subst e2; rw [updH_same] at hk; have := hnew k hk; have := (h.ar.foot e).2; omega
    · rw [updH_ne e2] at hk; exact h.d0 j (old j hj e2) k hk e
  · intro hh
    by_cases e1 : j1 = n
    · subst e1
      rw [updH_same] at hk
      rw [updH_ne (Ne.symm hne)] at hh
      have := hnew k hk
      have := ((h.ro j2 (old j2 h2 (Ne.symm hne))).foot hh).2
      omega
    · rw [updH_ne e1] at hk
      by_cases e2 : j2 = n
      · subst e2
        rw [updH_same] at hh
        have := hnew k hh
        have := ((h.ro j1 (old j1 h1 e1)).foot hk).2
        omega
      · rw [updH_ne e2] at hh
        exact h.d1 j1 j2 (old j1 h1 e1) (old j2 h2 e2) hne k hk hh
  · rcases hk with hk | ⟨j, hj, hk⟩
    · exact .inl (.inl hk)
    · by_cases e : j = n
      · subst e; rw [updH_same] at hk; exact .inr (hnew k hk)
      · rw [updH_ne e] at hk; exact .inl (.inr ⟨j, old j hj e, hk⟩)
end
/-! ### rows apart -/
/-- A row's block is none of these. -/
def RowOut (G : Nat → Prop) (v : Value) : Prop := ∀ g, v.ownBlock = some g → ¬ G g
section
variable {w w' : World} {base sz n : Nat} {t : TypeId} {v v' : Value} {xs : List Value} {G G' : Nat → Prop}
theorem rown_at (h : w.ownsRow base t sz v n xs) (k : Nat) (hk : v.ownBlock = some k) : base ≤ k ∧ k < w.heap.size ∧ ∃ cs, w.heap[k]? = some (.cells cs t (0, 0)) := by
  rcases h.2 with ⟨rfl, _⟩ | ⟨g, cap, cur, rfl, hb, hg, _⟩
  · cases hk
  · cases hk; exact ⟨hb, (Array.getElem?_eq_some_iff.1 hg).1, cur, hg⟩
theorem row_keep (h : w.ownsRow base t sz v n xs) (hk : ∀ g, v.ownBlock = some g → w'.heap[g]? = w.heap[g]?) : w'.ownsRow base t sz v n xs := by
  refine ⟨h.1, ?_⟩
  rcases h.2 with hn | ⟨g, cap, cur, e, hb, hgg, rest⟩
  · exact .inl hn
  · exact .inr ⟨g, cap, cur, e, hb, (hk g (by rw [e]; rfl)).trans hgg, rest⟩
theorem row_tn (h : w.ownsRow base t sz v n xs) (ho : RowOut G v) (ht : Tn G G' w w') : w'.ownsRow base t sz v n xs ∧ RowOut G' v :=
  ⟨row_keep h (fun g hg => ht.block g (rown_at h g hg).2.1 (ho g hg)), fun g hg e => (ht.foot g e).elim (ho g hg) (fun e2 => by have := (rown_at h g hg).2.1; omega)⟩
theorem row_below (h : w.ownsRow base t sz v n xs) (hb : Below w.heap.size w w') : w'.ownsRow base t sz v n xs := row_keep h (fun g hg => hb.block g (rown_at h g hg).2.1)
/-- A row that grows leaves the others alone. -/
theorem row_grown {w1 : World} (hr : w.ownsRow base t sz v n xs) (ho : RowOut G v) (hG : ∀ k, G k → k < w.heap.size) (hg : w.grownBy w1 v.ownBlock) (hat : v'.ownBlock = v.ownBlock ∨ v'.ownBlock = some w.heap.size) :
    RowOut G v' ∧ ∀ k, k < w.heap.size → (G k ∨ k < base) → w1.heap[k]? = w.heap[k]? := by
  refine ⟨fun g hg2 e => ?_, fun k hk h => hg.block k hk (fun e => ?_)⟩
  · rcases hat with h | h
    · exact ho g (h ▸ hg2) e
    · rw [h] at hg2
      injection hg2 with hg2
      have := hG g e
      omega
  · rcases h with h | h
    · exact ho k e.symm h
    · have := (rown_at hr k e.symm).1
      omega
theorem tn_grown {w0 w1 : World} {G0 : Nat → Prop} (h : Tn G0 G w0 w) (hg : w.grownBy w1 v.ownBlock) (hk : ∀ k, k < w.heap.size → (G k ∨ k < w0.heap.size) → w1.heap[k]? = w.heap[k]?) : Tn G0 G w0 w1 :=
  ⟨hg.os.trans h.os, hg.tape.trans h.tape, hg.output.trans h.output, Nat.le_trans h.size hg.size, fun k hk2 hn => (hk k (Nat.lt_of_lt_of_le hk2 h.size) (.inr hk2)).trans (h.block k hk2 hn), h.foot⟩
end
/-- A cell that a change of F leaves alone. -/
def Fix0 (w : World) (F : Nat → Prop) (a : Option Addr) (i : Nat) (v : Value) : Prop := ∃ b off, a = some ⟨b, off, none⟩ ∧ b < w.heap.size ∧ ¬ F b ∧ w.cell? ⟨b, off + i, none⟩ = some v
theorem Fix0.tn {w W : World} {F F' : Nat → Prop} {a : Option Addr} {i : Nat} {v : Value} (h : Fix0 w F a i v) (ht : Tn F F' w W) : ∃ b off, a = some ⟨b, off, none⟩ ∧ W.cell? ⟨b, off + i, none⟩ = some v := by
  obtain ⟨b, off, rfl, hb, hF, hc⟩ := h
  refine ⟨b, off, rfl, ?_⟩
  have := ht.block b hb hF
  unfold World.cell? at hc ⊢
  rw [this]
  exact hc
theorem itmod_pos {p n : Int} (hn : 0 < n) (h : 0 ≤ p.tmod n) : p.tmod n = p % n := by
  have h1 := Int.tmod_add_mul_tdiv p n
  have h2 := Int.emod_add_mul_ediv p n
  have h3 := Int.emod_nonneg p (by omega : n ≠ 0)
  have h4 := Int.emod_lt_of_pos p hn
  have h5 : p.tmod n < n := Int.tmod_lt_of_pos p hn
  have h6 : p % n = (p.tmod n + n * p.tdiv n) % n := by rw [h1]
  rw [Int.add_mul_emod_self_left, Int.emod_eq_of_lt h h5] at h6
  exact h6.symm
theorem itmod_neg {p n : Int} (hn : 0 < n) (h : p.tmod n < 0) : p.tmod n + n = p % n := by
  have h1 := Int.tmod_add_mul_tdiv p n
  have h7 : -n < p.tmod n := by
    have := Int.lt_tmod_of_pos p hn
    omega
  have h6 : p % n = (p.tmod n + n * p.tdiv n) % n := by rw [h1]
  rw [Int.add_mul_emod_self_left] at h6
  have h8 : (p.tmod n + n) % n = p.tmod n % n := Int.add_emod_right _ _
  rw [h6, ← h8, Int.emod_eq_of_lt (by omega) (by omega)]
set_option maxRecDepth 100000 in
set_option maxHeartbeats 1000000 in
theorem krest_any (p : Int) (n i : Nat) (hn : 1 ≤ n) (hn2 : n ≤ 1000) (hi : p % (n : Int) = (i : Int)) (w : World) : Calls Tryz.prog 64 #[.int .i64 p, .int .i64 (n : Int)] w (fun e w' => e = .returned (.int .i64 (i : Int)) ∧ w' = w) := by
  have hlt : p.tmod n < n := Int.tmod_lt_of_pos p (by omega)
  have hgt : -(n : Int) < p.tmod n := by have := Int.lt_tmod_of_pos p (by omega : (0 : Int) < n); omega
  have hn0 : (n : Int) ≠ 0 := by omega
  have h1 := fun h => (itmod_pos (by omega : (0 : Int) < n) h).trans hi
  have h2 := fun h => (itmod_neg (by omega : (0 : Int) < n) h).trans hi
  clear hi
  generalize hr : p.tmod (n : Int) = r at *
  have hw : wrap64 r = r := by unfold wrap64; omega
  have H1 := Lib.hid h1; clear h1
  have H2 := Lib.hid h2; clear h2
  by_cases h : r < 0
  · have e := H2.out h
    have E := Lib.hid e; clear e
    go_enter Tryz.func64, Tryz.ntmps64
    go_wp2
    go_ret
    exact ⟨by rw [← E.out]; rfl, rfl⟩
  · have e := H1.out (by omega)
    have E := Lib.hid e; clear e
    go_enter Tryz.func64, Tryz.ntmps64
    go_wp2
    go_ret
    exact ⟨by rw [← E.out]; rfl, rfl⟩
end Go.Proofs.YtknefjigdlbacaaGreatDoor
