/-
  Several texts in one: The walk of drive.Run over several seeks, however the picks are; A tape's Load and Cas, and rests of lists. By an AI agent.
-/
import Derived.Test.YtknefjigdlbacaaGreatDoorSkGBR
import Derived.Test.YtknefjigdlbacaaGreatDoorSkGBJ
import Derived.Test.YtknefjigdlbacaaGreatDoorSkGBF
set_option linter.unusedSimpArgs false
set_option linter.unusedVariables false
namespace Go.Proofs.YtknefjigdlbacaaGreatDoor
open Go.RowKit Go.Maps
open Mm (Mem Blk)
open Ac (A)
attribute [local go_sem] Oper.semAt_some
/-- A step's cells. -/
def scs7 (i : Int) (x : A) (v : Int) : List Value := [.int .i64 i, .int .i64 x.k, .int .u64 x.b, .int .i64 x.c, .int .u64 x.o, .int .u64 x.n, .int .u64 v]
theorem info_sstep : (Tryz.prog.info? 105).map (fun i => (i.zero, i.size, i.bytes)) = some (some (.agg #[.int .i64 0, .int .i64 0, .int .u64 0, .int .i64 0, .int .u64 0, .int .u64 0, .int .u64 0]), 7, 56) := by kernel_rfl
theorem cell_s7 (W : World) (i : Int) (x : A) (v : Int) (t : TypeId) : ∀ j u, (scs7 i x v)[j]? = some u → (W.alloc (.cells #[.int .i64 i, .int .i64 x.k, .int .u64 x.b, .int .i64 x.c, .int .u64 x.o, .int .u64 x.n, .int .u64 v] t)).cell? ((⟨W.heap.size, 0, none⟩ : Addr).add j) = some u := by
  have e : (W.alloc (.cells #[.int .i64 i, .int .i64 x.k, .int .u64 x.b, .int .i64 x.c, .int .u64 x.o, .int .u64 x.n, .int .u64 v] t)).heap[W.heap.size]? = some (.cells #[.int .i64 i, .int .i64 x.k, .int .u64 x.b, .int .i64 x.c, .int .u64 x.o, .int .u64 x.n, .int .u64 v] t (0, 0)) := World.alloc_heap_new W _
  intro j u hj
  rw [Addr.add_lit]
  simp only [World.cell?, Nat.zero_add]
  rw [e]
  simpa [scs7] using hj
theorem scs7_one (i : Int) (x : A) (v : Int) : ∀ u ∈ scs7 i x v, u.oneCell' = true := by intro u hu; simp [scs7] at hu; rcases hu with rfl | rfl | rfl | rfl | rfl | rfl | rfl <;> rfl
/-- One act of a seek, on a course that is known. -/
theorem kgo_more {B : Nat} {w : World} {p q N : Nat} {c : Sk.C} {s0 : Sk.S} {M : Mem} {F H : Nat → Prop} (hi : Sit c) (hr : Runs c (s0, M) N) (h0 : 0 < N) (ha : Ax B w p M F) (hk : Ks B w q c s0 H) (hap : ∀ k, H k → ¬ F k) (hbd : Bd w) (hlow : 0 < B) (hB : B ≤ w.heap.size) :
    Calls Tryz.prog 65 #[.pointer (some ⟨p, 0, none⟩), rvk q] w fun e w' => e = .returned (.tuple #[av (Sk.act c s0), .int .u64 ((Mm.ans M (Sk.act c s0) : Nat) : Int), .bool true]) ∧
      ∃ F' H', Ax B w' p (Mm.aft M (Sk.act c s0)) F' ∧ Ks B w' q c (Sk.step c s0 (Mm.ans M (Sk.act c s0))) H' ∧ Bd w' ∧ (∀ k, H' k → ¬ F' k) ∧ Tn (Or2 F H) (Or2 F' H') w w' := by
  have hdu : Du (srt q c (fun k => (cr c (s0, M) k).1) (fun k => Mm.ans (cr c (s0, M) k).2 (Sk.act c (cr c (s0, M) k).1)) N hi hr.1) B w p M 0 F H := ⟨ha, ⟨Nat.zero_le _, hlow, hk, hbd⟩, hap, hlow⟩
  refine (goon_more (srt q c (fun k => (cr c (s0, M) k).1) (fun k => Mm.ans (cr c (s0, M) k).2 (Sk.act c (cr c (s0, M) k).1)) N hi hr.1) hdu hB h0 (hr.2 0 h0)).mono ?_
  rintro e w' ⟨he, F', H', hd, ht⟩
  obtain ⟨-, -, hks, hbd'⟩ := hd.ro
  exact ⟨he, F', H', hd.ar, hks, hbd', hd.apart, ht⟩
/-- No act comes any more. -/
theorem kgo_end {B : Nat} {w : World} {q : Nat} {c : Sk.C} {s : Sk.S} {H : Nat → Prop} (pv : Value) (hk : Ks B w q c s H) (hw : Sk.Wf c s) (hi : Sit c) (hp : s.p = 0) :
    Calls Tryz.prog 65 #[pv, rvk q] w (Gives (.tuple #[av ⟨0, 0, 0, 0, 0⟩, .int .u64 0, .bool false]) w) :=
  goon_none pv (rvk q) w fun w1 hb => by
    have h := knext_some q (Sk.act c s) (Sk.more s) w1 fun w2 hb2 => skact_any ((hk.below hb).below hb2) hw hi.ok hi.tr
    rw [show Sk.act c s = ⟨0, 0, 0, 0, 0⟩ by unfold Sk.act; simp [hp], show Sk.more s = false by unfold Sk.more; rw [hp]; rfl] at h
    exact h
section
variable {Bx : Nat → List Nat} {G nn nb m : Nat} {M0 : Mem} {B : Nat} {w W W' : World} {F0 : Nat → Prop} {H0 : Nat → Nat → Prop} {p n : Nat} {q : Nat → Nat} {c : Nat → Sk.C}
/-- Several seeks, between any two acts. -/
def Mids (Bx : Nat → List Nat) (G nn nb m : Nat) (M0 : Mem) (B : Nat) (w : World) (F0 : Nat → Prop) (H0 : Nat → Nat → Prop) (p n : Nat) (q : Nat → Nat) (c : Nat → Sk.C) (s : Nat → Sk.S) (M : Mem) (F : Nat → Prop) (H : Nat → Nat → Prop) (W : World) : Prop :=
  Sk.Mid Bx G nn nb m n c M0 (s, M) ∧ Sms B W p M n q c s F H ∧ Bd W ∧ Tn (Tots n F0 H0) (Tots n F H) w W
/-- What stays as it is. -/
structure Std (Bx : Nat → List Nat) (G nn nb : Nat) (B n : Nat) (c : Nat → Sk.C) : Prop where
  env : Sk.Env Bx nn nb n c
  sit : ∀ i, i < n → Sit (c i)
  lay : ∀ i, i < n → (c i).lay ≠ 0
  g2 : G ≤ 2
  low : 0 < B
theorem Bd.tots {n1 : Nat} {F F' : Nat → Prop} {H H' : Nat → Nat → Prop} {n2 : Nat} (h : Bd W) (ht : Tn (Tots n1 F H) (Tots n2 F' H') W W') (hF : ∀ k, Tots n1 F H k → B ≤ k) (hl : 0 < B) : Bd W' :=
  h.block (ht.block _ h.lt (fun e => by have := hF _ e; omega))
/-- The picked seek goes on, or has ended. -/
theorem mids_go (S : Std Bx G nn nb B n c) {s : Nat → Sk.S} {M : Mem} {F : Nat → Prop} {H : Nat → Nat → Prop} (h : Mids Bx G nn nb m M0 B w F0 H0 p n q c s M F H W) (hB : B ≤ w.heap.size) (hm : m + 600 < 1000000000) {i : Nat} (hi : i < n) :
    (Calls Tryz.prog 65 #[.pointer (some ⟨p, 0, none⟩), rvk (q i)] W (Gives (.tuple #[av ⟨0, 0, 0, 0, 0⟩, .int .u64 0, .bool false]) W)) ∨
    ∃ (x : A) (v : Int), Calls Tryz.prog 65 #[.pointer (some ⟨p, 0, none⟩), rvk (q i)] W fun e W2 => e = .returned (.tuple #[av x, .int .u64 v, .bool true]) ∧
      (∃ s' M' F' H', Mids Bx G nn nb (m + 1) M0 B w F0 H0 p n q c s' M' F' H' W2 ∧ Tn (Tots n F H) (Tots n F' H') W W2) := by
  obtain ⟨hmid, hms, hbd, ht⟩ := h
  have hgi := hmid.ex
  by_cases hp : (s i).p = 0
  · left
    obtain ⟨t, gi, -, -⟩ := hgi
    exact kgo_end _ (hms.ro i hi) (gi.wf i hi) (S.sit i hi) hp
  · right
    obtain ⟨N, t, t', hN, D, -⟩ := Sk.mid_alone S.env hmid hi (S.lay i hi) S.g2 hm
    have hN0 : 0 < N := by
      rcases Nat.eq_zero_or_pos N with e | e
      · subst e; exact absurd D.fin hp
      · exact e
    have hBW : B ≤ W.heap.size := Nat.le_trans hB ht.size
    refine ⟨Sk.act (c i) (s i), ((Mm.ans M (Sk.act (c i) (s i)) : Nat) : Int), ?_⟩
    have hgo := kgo_more (S.sit i hi) (done_runs D) hN0 hms.ar (hms.ro i hi) (hms.d0 i hi) hbd S.low hBW
    refine hgo.mono ?_
    rintro e W2 ⟨he, F', H', ha, hk, hbd', hap, ht'⟩
    obtain ⟨hms', ht2⟩ := hms.step hi ha hk hap ht'
    have hm1 := Sk.mid_act S.env hmid hi (S.lay i hi) (by omega)
    unfold Sk.act1 at hm1
    rw [if_neg hp] at hm1
    exact ⟨he, _, _, F', _, ⟨hm1, hms', hbd', ht.trans ht2⟩, ht2⟩
theorem Mids.below {s : Nat → Sk.S} {M : Mem} {F : Nat → Prop} {H : Nat → Nat → Prop} (h : Mids Bx G nn nb m M0 B w F0 H0 p n q c s M F H W) (hb : Below W.heap.size W W') : Mids Bx G nn nb m M0 B w F0 H0 p n q c s M F H W' :=
  ⟨h.1, h.2.1.below hb, h.2.2.1.below hb, h.2.2.2.trans (Tn.of_below hb)⟩
/-- A run under way: k picks are done. -/
def RunI (Bx : Nat → List Nat) (G nn nb m : Nat) (M0 : Mem) (B : Nat) (w : World) (F0 : Nat → Prop) (H0 : Nat → Nat → Prop) (p n : Nat) (q : Nat → Nat) (c : Nat → Sk.C) (v : Value) (k : Nat) (W : World) : Prop :=
  ∃ (L : Nat) (cs : List Value) (s : Nat → Sk.S) (M : Mem) (F : Nat → Prop) (H : Nat → Nat → Prop), W.ownsRow w.heap.size 105 7 v L cs ∧ L ≤ k ∧ RowOut (Tots n F H) v ∧ Mids Bx G nn nb (m + k) M0 B w F0 H0 p n q c s M F H W
theorem RunI.next {k L : Nat} {v v' : Value} {cs cs' : List Value} {s : Nat → Sk.S} {M : Mem} {F : Nat → Prop} {H : Nat → Nat → Prop} {X w3 : World} (h : Mids Bx G nn nb (m + (k + 1)) M0 B w F0 H0 p n q c s M F H W) (hl : 0 < B) (hB : B ≤ w.heap.size) (hX : Below W.heap.size W X)
    (hr : X.ownsRow w.heap.size 105 7 v L cs) (ho : RowOut (Tots n F H) v) (hL : L ≤ k) (hown : w3.ownsRow w.heap.size 105 7 v' (L + 1) cs') (hg : X.grownBy w3 v.ownBlock) (hat : v'.ownBlock = v.ownBlock ∨ v'.ownBlock = some X.heap.size) :
    RunI Bx G nn nb m M0 B w F0 H0 p n q c v' (k + 1) w3 := by
  obtain ⟨h1, h2, h3, h4⟩ := h.below hX
  obtain ⟨ho', hk⟩ := row_grown hr ho (fun k hk => (h2.foot hk).2) hg hat
  exact ⟨L + 1, cs', s, M, F, H, hown, by omega, ho', h1, h2.keep (fun k hk2 => hk k (h2.foot hk2).2 (.inl hk2)), h3.block (hk _ h3.lt (.inr (by omega))), tn_grown h4 hg hk⟩
end
/-- What Run comes to. -/
def Ranm (Bx : Nat → List Nat) (G nn nb m : Nat) (M0 : Mem) (B : Nat) (w : World) (F0 : Nat → Prop) (H0 : Nat → Nat → Prop) (p n : Nat) (q : Nat → Nat) (c : Nat → Sk.C) (e : Ending) (w' : World) : Prop :=
  ∃ v, e = .returned v ∧ ∃ s M F H, Mids Bx G nn nb m M0 B w F0 H0 p n q c s M F H w'
set_option maxRecDepth 100000 in
set_option maxHeartbeats 8000000 in
/-- ████ Run. ████ -/
theorem krun_any {Bx : Nat → List Nat} {G nn nb m0 : Nat} {M0 : Mem} {B : Nat} {w : World} {p n : Nat} {q : Nat → Nat} {c : Nat → Sk.C} {s : Nat → Sk.S} {M : Mem} {F : Nat → Prop} {H : Nat → Nat → Prop} (S : Std Bx G nn nb B n c) (h : Mids Bx G nn nb m0 M0 B w F H p n q c s M F H w) (hB : B ≤ w.heap.size) (hn1 : 1 ≤ n) (hn : n ≤ 1000)
    (al : Option Addr) (cl : Nat) (hl : ∀ i, i < n → Fix0 w (Tots n F H) al i (rvk (q i)))
    (ap : Option Addr) (m cp : Nat) (hm : m ≤ 1000) (hm0 : m0 + m + 600 < 1000000000) (ps : Nat → Int) (hp : ∀ i, i < m → Fix0 w (Tots n F H) ap i (.int .i64 (ps i))) :
    Calls Tryz.prog 16 #[.pointer (some ⟨p, 0, none⟩), .slice al n cl, .slice ap m cp] w (Ranm Bx G nn nb (m0 + m) M0 B w F H p n q c) := by
  obtain ⟨i0, hi, hz0, hz1, hz2⟩ := info_parts info_sstep
  have Hz0 := Lib.hid hz0; clear hz0
  have Hz1 := Lib.hid hz1; clear hz1
  have Hz2 := Lib.hid hz2; clear hz2
  have Hi := Lib.hid hi; clear hi
  have J0 : Hid (RunI Bx G nn nb m0 M0 B w F H p n q c (.slice none 0 0) 0 w) := Lib.hid ⟨0, [], s, M, F, H, World.ownsRow_nil w w.heap.size 105 7, Nat.le_refl _, fun g hg => (by cases hg), h⟩
  have HL := Lib.hid hl; clear hl
  have HP := Lib.hid hp; clear hp
  have HST := Lib.hid S
  have HM0 := Lib.hid hm0; clear hm0
  clear h
  have hne : ((n : Int) == 0) = false := by simp; omega
  go_enter Tryz.func16, Tryz.ntmps16
  go_wp2
  go_loopw [7, 9, 10, 11, 12, 13, 19] (fun v _ _ _ _ _ i wr => ∃ k : Nat, k ≤ m ∧ i = .int .i64 k ∧ Hid (RunI Bx G nn nb m0 M0 B w F H p n q c v k wr)) (fun _ _ _ _ _ _ i _ => m - (intOf i).toNat)
  case atStart => exact ⟨0, by omega, rfl, J0⟩
  case round =>
    obtain ⟨k, hk, rfl, HJ⟩ := hrel
    by_cases hlt : k < m
    · obtain ⟨L, cs, s1, M1, F1, H1, hrow, hL, ho, hms⟩ := HJ.out
      obtain ⟨j, hj⟩ : ∃ j : Nat, ps k % (n : Int) = (j : Int) := ⟨(ps k % (n : Int)).toNat, by have := Int.emod_nonneg (ps k) (show (n : Int) ≠ 0 by omega); omega⟩
      have hwn : j < n := by have := Int.emod_lt_of_pos (ps k) (show (0 : Int) < n by omega); omega
      obtain ⟨bp, op, rfl, pc⟩ := (HP.out k hlt).tn hms.2.2.2
      obtain ⟨bl, ol, rfl, lc⟩ := (HL.out j hwn).tn hms.2.2.2
      have KR := Lib.hid (fun w1 => krest_any (ps k) n j hn1 hn hj w1)
      have hltZ : (k : Int) < (m : Int) := by omega
      have hjZ : (j : Int) < (n : Int) := by omega
      have hj0 : (0 : Int) ≤ (j : Int) := by omega
      generalize hpk : ps k = pk at *
      clear hj hpk
      have hgo := mids_go HST.out hms hB (by have := HM0.out; omega) hwn
      have HRW := Lib.hid (show _ ∧ _ ∧ _ ∧ _ from ⟨hrow, hL, ho, hms⟩)
      clear hrow hL ho hms HJ
      rcases hgo with KG | ⟨x, vv, KG⟩
      · have KG := Lib.hid KG
        go_wp2_with fail
        with_reducible refine (KR.out _).mono ?_
        rintro e w' ⟨rfl, rfl⟩
        go_wp2_with fail
        with_reducible refine KG.out.mono ?_
        rintro e W2 ⟨rfl, hb2⟩
        obtain ⟨hrow, hL, ho, hms⟩ := HRW.out
        have hbA := hb2.trans (((Below.refl W2.heap.size W2).alloc (Nat.le_refl _) (.cells #[.int .i64 0, .int .u64 0, .int .i64 0, .int .u64 0, .int .u64 0] 35)).mono hb2.size)
        have h2 := hms.below hbA
        have J2 : Hid (RunI Bx G nn nb m0 M0 B w F H p n q c _ (k + 1) _) := Lib.hid ⟨L, cs, s1, M1, F1, H1, row_below hrow hbA, by omega, ho, h2.1.up, h2.2⟩
        clear hrow hL ho hms h2 hbA hb2
        go_wp2
        go_roundw
        all_goals first | exact ⟨k + 1, by omega, by go_num, J2⟩ | (simp [intOf]; omega)
      · have KG := Lib.hid KG
        obtain ⟨xk, xb, xc, xo, xn⟩ := x
        go_wp2_with fail
        with_reducible refine (KR.out _).mono ?_
        rintro e w' ⟨rfl, rfl⟩
        go_wp2_with fail
        with_reducible refine KG.out.mono ?_
        rintro e W2 ⟨rfl, s2, M2, F2, H2, hm2, ht2⟩
        obtain ⟨hrow, hL, ho, hms⟩ := HRW.out
        obtain ⟨hr2, ho2⟩ := row_tn hrow ho ht2
        have hL2 : L ≤ 1000 := by omega
        have HRow := Lib.hid hr2
        have HMS := Lib.hid (show _ ∧ _ ∧ _ from ⟨hm2, ho2, hL⟩)
        have hsz2 : w.heap.size ≤ W2.heap.size := hm2.2.2.2.size
        have HC7 : Hid (∀ i u, (scs7 (j : Int) ⟨xk, xb, xc, xo, xn⟩ vv)[i]? = some u → ((W2.alloc (.cells #[.int .i64 xk, .int .u64 (xb : Int), .int .i64 xc, .int .u64 (xo : Int), .int .u64 (xn : Int)] 35)).alloc (.cells #[.int .i64 (j : Int), .int .i64 xk, .int .u64 (xb : Int), .int .i64 xc, .int .u64 (xo : Int), .int .u64 (xn : Int), .int .u64 vv] 105)).cell? ((⟨W2.heap.size + 1, 0, none⟩ : Addr).add i) = some u) := Lib.hid (by
          have := cell_s7 (W2.alloc (.cells #[.int .i64 xk, .int .u64 (xb : Int), .int .i64 xc, .int .u64 (xo : Int), .int .u64 (xn : Int)] 35)) (j : Int) ⟨xk, xb, xc, xo, xn⟩ vv 105
          rwa [World.size_alloc] at this)
        clear hrow hL ho hms hr2 ho2 hm2 ht2 HRW KG
        go_wp2_with (at_builtin; refine wpList_append_own_at _ rfl _ _ 58 rfl w.heap.size 105 i0 _ 7 56 Tryz.underlying58 Hi.out Hz0.out Hz1.out Hz2.out rfl (by decide) _ _ _ rfl ((HRow.out.alloc _).alloc _) ⟨W2.heap.size + 1, 0, none⟩ 1 1 (scs7 (j : Int) ⟨xk, xb, xc, xo, xn⟩ vv) rfl rfl HC7.out (scs7_one _ _ _) (by unfold maxLen; omega) (by omega) (by simp; omega) ?_; intro v' w3 hown' hgrow _ hat)
        have hX : Below W2.heap.size W2 ((W2.alloc (.cells #[.int .i64 xk, .int .u64 (xb : Int), .int .i64 xc, .int .u64 (xo : Int), .int .u64 (xn : Int)] 35)).alloc (.cells #[.int .i64 (j : Int), .int .i64 xk, .int .u64 (xb : Int), .int .i64 xc, .int .u64 (xo : Int), .int .u64 (xn : Int), .int .u64 vv] 105)) := ((Below.refl _ _).alloc (Nat.le_refl _) _).alloc (by simp only [World.size_alloc]; omega) _
        have J2 : Hid (RunI Bx G nn nb m0 M0 B w F H p n q c v' (k + 1) w3) := Lib.hid (RunI.next HMS.out.1 HST.out.low hB hX ((HRow.out.alloc _).alloc _) HMS.out.2.1 HMS.out.2.2 hown' hgrow hat)
        clear hown' hgrow hat hX HMS HRow HC7
        all_goals go_wp2
        all_goals go_roundw
        all_goals first | exact ⟨k + 1, by omega, by go_num, J2⟩ | (simp [intOf]; omega)
    · obtain rfl : k = m := by omega
      go_wp2
      go_ret
      obtain ⟨L, cs, s1, M1, F1, H1, hrow, hL, ho, hms⟩ := HJ.out
      exact ⟨_, rfl, s1, M1, F1, H1, hms⟩
end Go.Proofs.YtknefjigdlbacaaGreatDoor
set_option linter.unusedSimpArgs false
set_option linter.unusedVariables false
namespace Go.Proofs.YtknefjigdlbacaaGreatDoor
open Go.RowKit Go.Maps
open Ac (A)
section
variable {B : Nat} {w w' : World} {t c k : Nat} {ad : Option Addr} {gs : List Nat} {x : A}
set_option maxHeartbeats 1000000 in
theorem tload_any (b i : Nat) (h : Ts B w t ad gs c k x) (hx : k = gs.length → ⟨1, b, (i : Int), 0, 0⟩ = x) (hm : gs.length ≤ 1000000) : Calls Tryz.prog 47 #[.pointer (some ⟨t, 0, none⟩), .int .u64 (b : Int), .int .i64 (i : Int)] w fun e w' => e = .returned (.int .u64 ((gs.getD k 0 : Nat) : Int)) ∧ Ts B w' t ad gs c (k + 1) x ∧ Chg t w w' := by
  have K := Lib.hid (show Calls Tryz.prog 53 #[.pointer (some ⟨t, 0, none⟩), .agg #[.int .i64 1, .int .u64 (b : Int), .int .i64 (i : Int), .int .u64 0, .int .u64 0]] w fun e w' => e = .returned (.int .u64 ((gs.getD k 0 : Nat) : Int)) ∧ Ts B w' t ad gs c (k + 1) x ∧ Chg t w w' from tdo_any (y := ⟨1, b, (i : Int), 0, 0⟩) h hx hm)
  clear h hx
  generalize gs.getD k 0 = y at *
  go_enter Tryz.func47, Tryz.ntmps47
  go_wp2_with fail
  with_reducible refine K.out.mono ?_
  rintro e w' ⟨rfl, h1, h2⟩
  have H1 := Lib.hid h1
  have H2 := Lib.hid h2
  clear h1 h2
  go_wp2
  go_ret
  exact ⟨rfl, H1.out, H2.out⟩
set_option maxHeartbeats 1000000 in
theorem tcas_any (b i o n : Nat) (h : Ts B w t ad gs c k x) (hx : k = gs.length → ⟨3, b, (i : Int), o, n⟩ = x) (hm : gs.length ≤ 1000000) : Calls Tryz.prog 52 #[.pointer (some ⟨t, 0, none⟩), .int .u64 (b : Int), .int .i64 (i : Int), .int .u64 (o : Int), .int .u64 (n : Int)] w fun e w' => e = .returned (.int .u64 ((gs.getD k 0 : Nat) : Int)) ∧ Ts B w' t ad gs c (k + 1) x ∧ Chg t w w' := by
  have K := Lib.hid (show Calls Tryz.prog 53 #[.pointer (some ⟨t, 0, none⟩), .agg #[.int .i64 3, .int .u64 (b : Int), .int .i64 (i : Int), .int .u64 (o : Int), .int .u64 (n : Int)]] w fun e w' => e = .returned (.int .u64 ((gs.getD k 0 : Nat) : Int)) ∧ Ts B w' t ad gs c (k + 1) x ∧ Chg t w w' from tdo_any (y := ⟨3, b, (i : Int), o, n⟩) h hx hm)
  clear h hx
  generalize gs.getD k 0 = y at *
  go_enter Tryz.func52, Tryz.ntmps52
  go_wp2_with fail
  with_reducible refine K.out.mono ?_
  rintro e w' ⟨rfl, h1, h2⟩
  have H1 := Lib.hid h1
  have H2 := Lib.hid h2
  clear h1 h2
  go_wp2
  go_ret
  exact ⟨rfl, H1.out, H2.out⟩
end
theorem getD_drop (l : List Nat) (k j : Nat) : (l.drop k).getD j 0 = l.getD (k + j) 0 := by
  rw [List.getD_eq_getElem?_getD, List.getD_eq_getElem?_getD, List.getElem?_drop]
/-- A block aside. -/
structure Aside (F : Nat → Prop) (w : World) (z : Nat) (o : Obj) : Prop where
  at' : w.heap[z]? = some o
  apart : ¬ F z
theorem Aside.lt {F : Nat → Prop} {w : World} {z : Nat} {o : Obj} (h : Aside F w z o) : z < w.heap.size := (Array.getElem?_eq_some_iff.1 h.at').1
theorem Aside.tn {F F' : Nat → Prop} {w w' : World} {z : Nat} {o : Obj} (h : Aside F w z o) (ht : Tn F F' w w') : Aside F' w' z o :=
  ⟨(ht.block z h.lt h.apart).trans h.at', fun e => (ht.foot z e).elim h.apart (fun e2 => by have := h.lt; omega)⟩
theorem Aside.below {F : Nat → Prop} {w w' : World} {z : Nat} {o : Obj} (h : Aside F w z o) (hb : Below w.heap.size w w') : Aside F w' z o := h.tn (Tn.of_below hb)
theorem Aside.cell {F : Nat → Prop} {w : World} {z : Nat} {cs : Array Value} {t : TypeId} {zz : Nat × Nat} (h : Aside F w z (.cells cs t zz)) (i : Nat) {v : Value} (hv : cs[i]? = some v) : w.cell? ⟨z, i, none⟩ = some v := by
  simp [World.cell?, h.at', hv]
/-- The cells of a site. -/
abbrev siteC (d t n k s : Int) : Array Value := #[.int .u64 d, .int .i64 t, .int .i64 n, .int .i64 k, .int .u64 s]
end Go.Proofs.YtknefjigdlbacaaGreatDoor
