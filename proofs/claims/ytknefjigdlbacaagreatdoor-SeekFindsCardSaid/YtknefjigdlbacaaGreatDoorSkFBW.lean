/-
  Several texts in one: SeekFinds' arena between the rounds of its loops; what a round of each comes to; A slice of texts; SeekFinds, where nothing is laid. By an AI agent.
-/
import Derived.Test.YtknefjigdlbacaaGreatDoorSkFBP
import Derived.Test.YtknefjigdlbacaaGreatDoorSkFBQ
import Derived.Test.YtknefjigdlbacaaGreatDoorSkFBV
import Derived.Test.YtknefjigdlbacaaGreatDoorSkFBS
set_option linter.unusedSimpArgs false
set_option linter.unusedVariables false
namespace Go.Proofs.YtknefjigdlbacaaGreatDoor
open Go.RowKit Go.Maps
open Mm (Mem Blk)
open Ac (A)
/-- A course that is known: its states, its answers, its memories. -/
def Runs (c : Sk.C) (x : Sk.S × Mem) (N : Nat) : Prop :=
  Course c (fun k => (cr c x k).1) (fun k => Mm.ans (cr c x k).2 (Sk.act c (cr c x k).1)) N ∧ ∀ k, k < N → DoesIt (cr c x k).2 (Sk.act c (cr c x k).1) (Mm.ans (cr c x k).2 (Sk.act c (cr c x k).1) : Nat) (cr c x (k + 1)).2
theorem done_runs {B : Nat → List Nat} {G nn nb m R : Nat} {t : Sk.Tv} {M : Mem} {c : Nat → Sk.C} {s : Nat → Sk.S} {r N : Nat} {t' : Sk.Tv} (D : Sk.Done B G nn nb m R t M c s r N t') : Runs (c r) (s r, M) N :=
  ⟨⟨D.wf, fun _ _ => rfl, fun k hk => (D.go k hk).2.2.1, fun k hk => (D.go k hk).1, D.fin, fun k hk => (D.go k hk).2.2.2⟩, fun k hk => by
    obtain ⟨ws, h⟩ := (D.go k hk).2.1
    exact does_it h⟩
/-- Alone, on a course that is known. -/
theorem alone_runs {B : Nat} {w : World} {p q N : Nat} {c : Sk.C} {s0 : Sk.S} {M : Mem} {F H : Nat → Prop} (hi : Sit c) (hr : Runs c (s0, M) N) (ha : Ax B w p M F) (hk : Ks B w q c s0 H) (hap : ∀ k, H k → ¬ F k) (hbd : Bd w) (hlow : 0 < B) (hB : B ≤ w.heap.size) (hN : N ≤ 1000) (most : Int) (hmost : (N : Int) ≤ most) :
    Calls Tryz.prog 17 #[.pointer (some ⟨p, 0, none⟩), rvk q, .int .i64 most] w (Sran B p q c (cr c (s0, M) N).1 N (cr c (s0, M) N).2 F H w) :=
  skalone (s := fun k => (cr c (s0, M) k).1) (Sm := fun k => (cr c (s0, M) k).2) hi hr.1 ha hk hap hbd hlow hB hN hr.2 most hmost
open Sk
section
variable {n nn G m : Nat} {ks vs : Nat → List UInt8} {th : Nat → Nat} {tn kp : Int} {sd : Nat} {lg : Int} {M : Mem}
/-- The arena, with i keys laid. -/
structure FsM (n nn G : Nat) (ks vs : Nat → List UInt8) (th : Nat → Nat) (tn kp : Int) (sd : Nat) (lg : Int) (i m : Nat) (M : Mem) : Prop where
  ex : ∃ t m' s, Laid (bK n ks vs) G t i (cK th tn kp sd lg ks) s ∧ See (bK n ks vs) G nn (2 + i) m' t M ∧ Wb t ∧ m' ≤ m
  last : M.last = 2 + i
  faults : M.faults = 0
  room : M.room = 600
  used : Mm.used M.L ≤ 155 + 6 * i
theorem fsm_zero (f : Fix n nn G ks vs th lg) {dn tl lgn : Nat} (hd : dn = 2 + 2 * nn) (ht : tl = 7 + 9 * G) (h1 : 1 ≤ nn) : FsM n nn G ks vs th tn kp sd lg 0 0 (Fm 600 dn tl lgn) := by
  have h64 := f.n64
  have g2 := f.g2
  refine ⟨⟨t0, 0, fun r => Sk.start (cK th tn kp sd lg ks r) false, laid_zero _ _ _ _, ?_, wb_zero, Nat.le_refl _⟩, rfl, rfl, rfl, ?_⟩
  · have l1 : ((List.replicate dn (0 : Int)).set 0 2).length = dn := by rw [List.length_set, List.length_replicate]
    refine see_zero (M := Fm 600 dn tl lgn) (ds := ((List.replicate dn 0).set 0 2).set 1 16) (ts := (List.replicate tl 0).set 0 (lgn : Int)) _ rfl rfl ?_ (fun j => ?_) ?_ ?_ (fun j hj => ?_)
    · rw [List.length_set, l1]; exact hd
    · rw [getD_set _ _ _ (by omega)]
      split
      · omega
      · rw [getD_set _ _ _ (by rw [List.length_replicate]; omega)]
        split
        · omega
        · rw [getD_rep]; omega
    · rw [List.length_set, List.length_replicate]; exact ht
    · rw [getD_set _ _ _ (by rw [List.length_replicate]; omega), if_pos rfl]; omega
    · rw [getD_set _ _ _ (by rw [List.length_replicate]; omega), if_neg (by omega), getD_rep]
  · show Mm.used [(1, ((List.replicate dn (0 : Int)).set 0 2).set 1 16), (2, (List.replicate tl 0).set 0 (lgn : Int))] ≤ _
    simp only [Mm.used, List.length_set, List.length_replicate]
    omega
/-- A key laid. -/
theorem fsm_lay (f : Fix n nn G ks vs th lg) {i : Nat} (hi : i < n) (h : FsM n nn G ks vs th tn kp sd lg i m M) (hG : Mm.Good M) (hm : m + 600 < 1000000000) :
    ∃ N, N ≤ 600 ∧ Runs (cK th tn kp sd lg ks i) (Sk.start (cK th tn kp sd lg ks i) false, Smx M (Kr.up (Kr.bx (ks i) (vs i)))) N ∧ FsM n nn G ks vs th tn kp sd lg (i + 1) (m + 600) (cr (cK th tn kp sd lg ks i) (Sk.start (cK th tn kp sd lg ks i) false, Smx M (Kr.up (Kr.bx (ks i) (vs i)))) N).2 := by
  obtain ⟨t, m', s, hL, hS, hw, hmm⟩ := h.ex
  have hs' : See (bK n ks vs) G nn (2 + i + 1) m' t (Smx M (Kr.up (Kr.bx (ks i) (vs i)))) := by
    refine see_box (nb := 2 + i) hS ?_ ?_ (by omega)
    · show M.L ++ [(M.last + 1, Kr.up (Kr.bx (ks i) (vs i)))] = M.L ++ [(2 + i + 1, Kr.up (bK n ks vs (2 + i + 1)))]
      rw [h.last, show 2 + i + 1 = 3 + i by omega, bK_at hi]
    · have := Mm.new_get M hG
      rwa [h.last] at this
  obtain ⟨N, t', hN, D, hL'⟩ := lay_one f hi hL hs' hw (by omega)
  have hr := done_runs D
  have hsee := D.see
  have hwb := D.wb
  rw [upd_same] at hr hsee
  have K := keep_cr (cK th tn kp sd lg ks i) (Sk.start (cK th tn kp sd lg ks i) false, Smx M (Kr.up (Kr.bx (ks i) (vs i)))) N
  refine ⟨N, hN, hr, ⟨t', m' + N, _, hL', hsee, hwb, by omega⟩, ?_, ?_, ?_, ?_⟩
  · rw [K.last]; show M.last + 1 = _; rw [h.last]; omega
  · rw [K.faults]; exact h.faults
  · rw [K.room]; exact h.room
  · rw [K.used]
    show Mm.used (M.L ++ [(M.last + 1, _)]) ≤ _
    rw [Mm.used_append]
    have := (bx_bd (f.ks i hi) (f.vs i hi)).2
    have := h.used
    simp only [Mm.used, Kr.up_len]
    omega
/-- A key looked for. -/
theorem fsm_look (f : Fix n nn G ks vs th lg) (h : FsM n nn G ks vs th tn kp sd lg n m M) (hm : m + 600 < 1000000000) {th' : Nat} (hth : th' < nn) (key : List UInt8) (chk : Bool) :
    ∃ N, N ≤ 600 ∧ Runs (cL th' tn kp sd lg key) (Sk.start (cL th' tn kp sd lg key) chk, M) N ∧ FsM n nn G ks vs th tn kp sd lg n (m + 600) (cr (cL th' tn kp sd lg key) (Sk.start (cL th' tn kp sd lg key) chk, M) N).2 ∧
      (∀ k, k < n → (∀ r, r < k → ks r ≠ ks k) → key = ks k → ∃ y w, (cr (cL th' tn kp sd lg key) (Sk.start (cL th' tn kp sd lg key) chk, M) N).1.f = ⟨2, y, w, vs k⟩) ∧
      ((∀ k, k < n → ks k ≠ key) → (cr (cL th' tn kp sd lg key) (Sk.start (cL th' tn kp sd lg key) chk, M) N).1.f = ⟨1, 0, 0, []⟩) := by
  obtain ⟨t, m', s, hL, hS, hw, hmm⟩ := h.ex
  obtain ⟨N, hN, D, h1, h2⟩ := look_one f hL hS hw (m := m') (by omega) hth key chk
  have hr := done_runs D
  have hsee := D.see
  have eR : cKL n th' key th tn kp sd lg ks n = cL th' tn kp sd lg key := cKL_R
  rw [upd_same, eR] at hr hsee
  have K := keep_cr (cL th' tn kp sd lg key) (Sk.start (cL th' tn kp sd lg key) chk, M) N
  exact ⟨N, hN, hr, ⟨⟨t, m' + N, s, hL, hsee, hw, by omega⟩, by rw [K.last]; exact h.last, by rw [K.faults]; exact h.faults, by rw [K.room]; exact h.room, by rw [K.used]; exact h.used⟩, h1, h2⟩
/-- What the sites may be. -/
theorem sit_K (f : Fix n nn G ks vs th lg) {i : Nat} (hi : i < n) (hr : Dk.right 1 (th i : Int) tn kp = true) : Sit (cK th tn kp sd lg ks i) := by
  have := f.th i hi
  have := f.n64
  have g1 := f.g1
  have g := f.grp
  have := f.nm
  refine ⟨ok_K (by omega) (by omega) (by omega), ?_, hr⟩
  show Tb.right ((2 : Nat) : Int) (Tb.grp lg) = true
  unfold Tb.right
  simp
  omega
theorem sit_L (f : Fix n nn G ks vs th lg) {th' : Nat} (hth : th' < nn) {key : List UInt8} (hr : Dk.right 1 (th' : Int) tn kp = true) : Sit (cL th' tn kp sd lg key) := by
  have := f.n64
  have g1 := f.g1
  have g := f.grp
  refine ⟨ok_L (by omega) (by omega), ?_, hr⟩
  show Tb.right ((2 : Nat) : Int) (Tb.grp lg) = true
  unfold Tb.right
  simp
  omega
end
end Go.Proofs.YtknefjigdlbacaaGreatDoor
set_option linter.unusedSimpArgs false
set_option linter.unusedVariables false
namespace Go.Proofs.YtknefjigdlbacaaGreatDoor
open Go.RowKit Go.Maps
open Mm (Mem Blk)
/-- A slice of texts that came in. -/
def Stx (w : World) (B : Nat) (a : Option Addr) (ks : List ByteArray) : Prop := ks = [] ∨ ∃ b off, a = some ⟨b, off, none⟩ ∧ b < B ∧ ∀ j, j < ks.length → w.cell? ⟨b, off + j, none⟩ = some (.string (ks.getD j ⟨#[]⟩))
theorem Stx.below {w w' : World} {B : Nat} {a : Option Addr} {ks : List ByteArray} (h : Stx w B a ks) (hb : Below B w w') : Stx w' B a ks := by
  rcases h with h | ⟨b, off, e, hlt, hc⟩
  · exact .inl h
  · refine .inr ⟨b, off, e, hlt, fun j hj => ?_⟩
    have := hc j hj
    unfold World.cell? at this ⊢
    rw [hb.block b hlt]
    exact this
theorem Stx.at {w : World} {B : Nat} {a : Option Addr} {ks : List ByteArray} (h : Stx w B a ks) {j : Nat} (hj : j < ks.length) : ∃ b off, a = some ⟨b, off, none⟩ ∧ ∀ w', Below B w w' → w'.cell? ⟨b, off + j, none⟩ = some (.string (ks.getD j ⟨#[]⟩)) := by
  rcases h with h | ⟨b, off, e, hlt, hc⟩
  · subst h; exact absurd hj (Nat.not_lt_zero _)
  · refine ⟨b, off, e, fun w' hb => ?_⟩
    have := hc j hj
    unfold World.cell? at this ⊢
    rw [hb.block b hlt]
    exact this
set_option maxRecDepth 100000 in
set_option maxHeartbeats 4000000 in
theorem sfinds_out (d : Nat) (t nn kp : Int) (sd : Nat) (len cap : Nat) (A0 : Option Addr) (other : ByteArray) (w : World) (hbd : Bd w) (hl : len ≤ maxLen) (hk : other.size ≤ maxLen) (h : Dk.right (d : Int) t nn kp = false ∨ 14 < len ∨ 16 < other.size) :
    Calls Tryz.prog 5 #[.agg #[.int .u64 (d : Int), .int .i64 t, .int .i64 nn, .int .i64 kp, .int .u64 (sd : Int)], .slice A0 len cap, .string other] w (Gives (.bool true) w) := by
  unfold maxLen at hl hk
  have HB := Lib.hid (sboxed_below w (d : Int) t nn kp (sd : Int))
  obtain ⟨c0, c1, c2, c3, c4⟩ := sboxed_cells (w := w) (d := (d : Int)) (t := t) (n := nn) (k := kp) (s := (sd : Int)) (Below.refl _ _)
  have KR := dright_any (d : Int) t nn kp (sd : Int) _ (hbd.below HB.out)
  have KA := Lib.hid (fun (V : World) (hb : Below w.heap.size w V) => awake_any V (hbd.below hb))
  obtain ⟨r, hr⟩ : ∃ r, r = Dk.right (d : Int) t nn kp := ⟨_, rfl⟩
  rw [← hr] at h KR
  have KR := Lib.hid KR
  clear hr hbd
  go_enter Tryz.func5, Tryz.ntmps5
  go_wp2_with fail
  with_reducible refine KR.out.mono ?_
  rintro e w1 ⟨rfl, hb1⟩
  have HB1 := Lib.hid (HB.out.trans (hb1.mono HB.out.size))
  have KA1 := Lib.hid (KA.out w1 HB1.out)
  clear hb1 c0 c1 c2 c3 c4 KR KA
  cases r with
  | false =>
    go_wp2_with fail
    with_reducible refine KA1.out.mono ?_
    rintro e w2 ⟨rfl, hb2⟩
    have HB2 := Lib.hid (HB1.out.trans (hb2.mono HB1.out.size))
    clear hb2
    go_wp2
    go_ret
    exact ⟨rfl, HB2.out⟩
  | true =>
    by_cases h1 : 14 < len
    · have e1 : (14 : Int) < (len : Int) := by omega
      go_wp2_with fail
      with_reducible refine KA1.out.mono ?_
      rintro e w2 ⟨rfl, hb2⟩
      have HB2 := Lib.hid (HB1.out.trans (hb2.mono HB1.out.size))
      clear hb2
      go_wp2
      go_ret
      exact ⟨rfl, HB2.out⟩
    · have h2 : 16 < other.size := by
        rcases h with h | h | h
        · cases h
        · exact absurd h h1
        · exact h
      have e1 : ¬ (14 : Int) < (len : Int) := by omega
      have e2 : (16 : Int) < (other.size : Int) := by omega
      go_wp2_with fail
      with_reducible refine KA1.out.mono ?_
      rintro e w2 ⟨rfl, hb2⟩
      have HB2 := Lib.hid (HB1.out.trans (hb2.mono HB1.out.size))
      clear hb2
      go_wp2
      go_ret
      exact ⟨rfl, HB2.out⟩
end Go.Proofs.YtknefjigdlbacaaGreatDoor
