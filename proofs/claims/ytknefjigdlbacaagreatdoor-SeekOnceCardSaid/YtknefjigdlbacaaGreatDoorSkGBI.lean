/-
  Several texts in one: The walk of Alone; The walks of a tape's Do, Alloc and Store: the document's acts. By an AI agent.
-/
import Derived.Test.YtknefjigdlbacaaGreatDoorSkGBH
import Derived.Test.YtknefjigdlbacaaGreatDoorSkGAH
import Derived.Test.YtknefjigdlbacaaGreatDoorSkGAC
import Derived.Test.YtknefjigdlbacaaGreatDoorSkGAN
set_option linter.unusedSimpArgs false
set_option linter.unusedVariables false
namespace Go.Proofs.YtknefjigdlbacaaGreatDoor
open Go.RowKit Go.Shelf Go.Maps
open Mm (Mem Blk)
open Ac (A)
attribute [local go_sem] Oper.semAt_some
/-- What Alone comes to: d acts were done. -/
def Alones (R : Rt) (B : Nat) (w : World) (F0 H0 : Nat → Prop) (p : Nat) (Sm : Nat → Mem) (d : Nat) (e : Ending) (w' : World) : Prop :=
  e = .returned (.tuple #[.int .i64 (d : Int), .bool (decide (R.N ≤ d))]) ∧ ∃ F H, Du R B w' p (Sm d) d F H ∧ Tn (Or2 F0 H0) (Or2 F H) w w'
/-- The boxes of Alone. -/
def Bx4 (n0 : Nat) (most : Int) (k p : Nat) (rr : Value) (W : World) : Prop := Boxed W n0 3 (.int .i64 most) ∧ Boxed W (n0 + 1) 3 (.int .i64 (k : Int)) ∧ Boxed W (n0 + 1 + 1) 52 (.pointer (some ⟨p, 0, none⟩)) ∧ Boxed W (n0 + 1 + 1 + 1) 63 rr
theorem Bx4.keep {n0 : Nat} {most : Int} {k p : Nat} {rr : Value} {W W' : World} (h : Bx4 n0 most k p rr W) (hk : ∀ j, n0 ≤ j → j < n0 + 4 → W'.heap[j]? = W.heap[j]?) : Bx4 n0 most k p rr W' :=
  ⟨boxed_keep h.1 (hk _ (by omega) (by omega)), boxed_keep h.2.1 (hk _ (by omega) (by omega)), boxed_keep h.2.2.1 (hk _ (by omega) (by omega)), boxed_keep h.2.2.2 (hk _ (by omega) (by omega))⟩
theorem Bx4.alloc {n0 : Nat} {most : Int} {k p : Nat} {rr : Value} {W : World} (h : Bx4 n0 most k p rr W) (o : Obj) : Bx4 n0 most k p rr (W.alloc o) := ⟨h.1.alloc _, h.2.1.alloc _, h.2.2.1.alloc _, h.2.2.2.alloc _⟩
theorem Bx4.putRec {n0 : Nat} {most : Int} {k p : Nat} {rr : Value} {W w4 : World} (h : Bx4 n0 most k p rr W) {l : Nat} {o o' : Obj} (hl : w4.heap.size ≤ l) (hz : w4.heap.size = n0 + 4) (ho : W.heap[l]? = some o) : Bx4 n0 most k p rr (W.putObj l o') :=
  h.keep fun j _ _ => World.putObj_heap_other (by omega)
set_option maxRecDepth 100000 in
set_option maxHeartbeats 4000000 in
theorem alone_zero (R : Rt) {B : Nat} {w : World} {p : Nat} {Sm : Nat → Mem} {F0 H0 : Nat → Prop} (h : Du R B w p (Sm 0) 0 F0 H0) (hB : B ≤ w.heap.size) (most : Int) (hm : most ≤ 0) :
    Calls Tryz.prog 17 #[.pointer (some ⟨p, 0, none⟩), R.v, .int .i64 most] w (Alones R B w F0 H0 p Sm 0) := by
  have hd : decide (0 < most) = false := by simp; omega
  have KN : Hid (∀ w1, Below w.heap.size w w1 → ∃ x, Calls Tryz.prog 67 #[R.v] w1 (Gives (.tuple #[av x, .bool (decide (0 < R.N))]) w1)) := Lib.hid (fun w1 hb => next_any R (R.below h.ro hb) (Nat.zero_le _))
  have HD := Lib.hid h; clear h
  go_enter Tryz.func17, Tryz.ntmps17
  go_wp2_with fail
  obtain ⟨W, hW⟩ : ∃ W, W = (w.alloc (.cells #[.int .i64 most] 3)).alloc (.cells #[.int .i64 0] 3) := ⟨_, rfl⟩
  have hb : Below w.heap.size w W := by rw [hW]; exact ((Below.refl _ w).alloc (Nat.le_refl _) _).alloc (by simp) _
  have k1 : Boxed W (w.heap.size + 1) 3 (.int .i64 0) := by rw [hW]; have := Boxed.new (w.alloc (.cells #[.int .i64 most] 3)) 3 (.int .i64 0); rwa [World.size_alloc] at this
  rw [← hW]
  clear hW
  obtain ⟨x, K⟩ := KN.out W hb
  with_reducible refine K.mono ?_
  rintro e w1 ⟨rfl, hb1⟩
  have hbb := hb.trans (hb1.mono hb.size)
  have hbx : Below w1.heap.size w1 (boxed w1 x) := boxed_below _ _
  have hbz := hbb.trans (hbx.mono hbb.size)
  have c1 := (boxed_keep (boxed_keep k1 (hb1.block _ k1.lt)) (hbx.block _ (Nat.lt_of_lt_of_le k1.lt hb1.size))).cell
  have HB := Lib.hid hbz
  clear hb hb1 hbb hbx hbz k1 K KN
  go_wp2
  refine bodyPost_ret (v := .tuple #[.int .i64 0, .bool (decide (R.N ≤ 0))]) (by simp [results, Tryz.results17, go_sem]; cases R.N <;> simp) rfl ⟨rfl, F0, H0, ?_, Tn.of_below HB.out⟩
  exact HD.out.below HB.out
set_option maxRecDepth 100000 in
set_option maxHeartbeats 4000000 in
theorem alone_in (R : Rt) (n : Nat) (hn : 9 ≤ n) {B : Nat} {w : World} {p : Nat} {Sm : Nat → Mem} {F0 H0 : Nat → Prop} (h : Du R B w p (Sm 0) 0 F0 H0) (hB : B ≤ w.heap.size) (most : Int) (hm : 0 < most)
    (hN : R.N ≤ 1000) (hD : ∀ k, k < R.N → DoesIt (Sm k) (R.xs k) (R.vs k) (Sm (k + 1))) :
    CallsIn Fence.wide n Tryz.prog 17 #[.pointer (some ⟨p, 0, none⟩), R.v, .int .i64 most] w (Alones R B w F0 H0 p Sm (min most.toNat R.N)) := by
  have hd : decide (0 < most) = true := by simp; omega
  have g1 : 1 ≤ n := by omega
  have HD := Lib.hid h; clear h
  have HF := Lib.hid hD; clear hD
  have KS := Lib.hid (fun (n : Nat) (w1 : World) => steps_call n (.pointer (some ⟨p, 0, none⟩)) R.v rfl R.one w1)
  have hf1 : Fence.wide.fn 66 := trivial
  have hf2 : Fence.wide.fn 67 := trivial
  refine callsIn_of_wp_marks Tryz.func17 rfl trivial ?_ rfl
  simp only [Tryz.ntmps17, List.size_toArray, List.length_cons, List.length_nil, Nat.reduceAdd, Nat.reduceSub, Array.replicate_succ, Array.replicate_zero, List.push_toArray, List.append_toArray, List.nil_append, List.cons_append]
  gi_wp2_with (gi_at_call 66; refine (KS.out _ _).mono ?_; rintro e w1 ⟨rfl, rfl⟩)
  obtain ⟨w4, hw4⟩ : ∃ w4, w4 = ((((w.alloc (.cells #[.int .i64 most] 3)).alloc (.cells #[.int .i64 0] 3)).alloc (.cells #[.pointer (some ⟨p, 0, none⟩)] 52)).alloc (.cells #[R.v] 63)) := ⟨_, rfl⟩
  have hz4 : w4.heap.size = w.heap.size + 4 := by rw [hw4]; simp
  have hb4 : Below w.heap.size w w4 := by rw [hw4]; exact ((((Below.refl _ w).alloc (Nat.le_refl _) _).alloc (by simp) _).alloc (by simp; omega) _).alloc (by simp; omega) _
  have x0 : Boxed w4 w.heap.size 3 (.int .i64 most) := by rw [hw4]; exact (((Boxed.new w 3 (.int .i64 most)).alloc _).alloc _).alloc _
  have x1 : Boxed w4 (w.heap.size + 1) 3 (.int .i64 0) := by rw [hw4]; have := Boxed.new (w.alloc (.cells #[.int .i64 most] 3)) 3 (.int .i64 0); rw [World.size_alloc] at this; exact (this.alloc _).alloc _
  have x2 : Boxed w4 (w.heap.size + 1 + 1) 52 (.pointer (some ⟨p, 0, none⟩)) := by rw [hw4]; have := Boxed.new ((w.alloc (.cells #[.int .i64 most] 3)).alloc (.cells #[.int .i64 0] 3)) 52 (.pointer (some ⟨p, 0, none⟩)); rw [World.size_alloc, World.size_alloc] at this; exact this.alloc _
  have x3 : Boxed w4 (w.heap.size + 1 + 1 + 1) 63 (R.v) := by rw [hw4]; have := Boxed.new (((w.alloc (.cells #[.int .i64 most] 3)).alloc (.cells #[.int .i64 0] 3)).alloc (.cells #[.pointer (some ⟨p, 0, none⟩)] 52)) 63 (R.v); rw [World.size_alloc, World.size_alloc, World.size_alloc] at this; exact this
  rw [← hw4]
  clear hw4
  obtain ⟨n0, hn0⟩ : ∃ n0, n0 = w.heap.size := ⟨_, rfl⟩
  rw [← hn0] at x0 x1 x2 x3 hz4 ⊢
  have hnA : w.heap.size ≤ n0 := by omega
  have hnB : n0 ≤ w.heap.size := by omega
  clear hn0
  have L0 : Lp R B w F0 H0 p (Sm 0) 0 (n0 + 4) w4 := Lp.start HD.out hb4 (by omega) hB
  have hfoot : ∀ k, Or2 F0 H0 k → B ≤ k := fun k hk => (HD.out.foot hk).1
  refine range_steps (by omega) (n0 + 1 + 1) (n0 + 1 + 1 + 1) (.pointer (some ⟨p, 0, none⟩)) R.v rfl rfl R.N R.xs R.vs
    (fun k W => k ≤ R.N ∧ (k : Int) < most ∧ Bx4 n0 most k p R.v W ∧ Lp R B w F0 H0 p (Sm k) k (n0 + 4) W)
    (fun k W => k < R.N ∧ (k : Int) < most ∧ Bx4 n0 most k p R.v W ∧ Lp R B w F0 H0 p (Sm (k + 1)) (k + 1) (n0 + 4) W)
    (fun k a1 W => a1 = { tmps := #[.pointer (some ⟨p, 0, none⟩), R.v, .int .i64 most, undef, undef, .pointer (some ⟨n0, 0, none⟩), .int .i64 0, .bool false, .pointer (some ⟨n0 + 1, 0, none⟩), undef, undef, .int .i64 most, .bool true, .pointer (some ⟨p, 0, none⟩), R.v, .func (.func 120) #[] #[.pointer (some ⟨n0 + 1 + 1, 0, none⟩), .pointer (some ⟨n0 + 1 + 1 + 1, 0, none⟩)], av (R.xs k), .int .u64 (R.vs k), undef, undef, undef, undef, undef, undef, undef, undef, undef, undef, undef, undef, undef], defers := [] } ∧ (k < R.N ∧ (k : Int) < most ∧ Bx4 n0 most k p R.v W ∧ Lp R B w F0 H0 p (Sm (k + 1)) (k + 1) (n0 + 4) W))
    (fun W => (R.N : Int) < most ∧ Bx4 n0 most R.N p R.v W ∧ Lp R B w F0 H0 p (Sm R.N) R.N (n0 + 4) W)
    (fun cd k W => cd = .exit 0 ∧ k ≤ R.N ∧ (k : Int) = most ∧ Bx4 n0 most k p R.v W ∧ Lp R B w F0 H0 p (Sm k) k (n0 + 4) W)
    (fun W => R.N - R.at' W) ?bI ?bI2 ?bd ?bx ?h0 ?hmu ?hG ?hassign ?hbody ?hdone ?hstop
  case bI => exact fun s W l o o' ⟨h1, h2, h3, h4⟩ hl ho hr hr' => ⟨h1, h2, h3.putRec hl hz4 ho, h4.putRec (by omega) ho hr⟩
  case bI2 => exact fun s W l o o' ⟨h0, h1, h2, h3, h4⟩ hl ho hr hr' => ⟨h0, h1, h2, h3.putRec hl hz4 ho, h4.putRec (by omega) ho hr⟩
  case bd => exact fun s W l o o' ⟨h2, h3, h4⟩ hl ho hr hr' => ⟨h2, h3.putRec hl hz4 ho, h4.putRec (by omega) ho hr⟩
  case bx => exact fun cd s W l o o' ⟨h0, h1, h2, h3, h4⟩ hl ho hr hr' => ⟨h0, h1, h2, h3.putRec hl hz4 ho, h4.putRec (by omega) ho hr⟩
  case h0 => exact fun r => ⟨Nat.zero_le _, hm, ⟨(x0.alloc _).alloc _, (x1.alloc _).alloc _, (x2.alloc _).alloc _, (x3.alloc _).alloc _⟩, (L0.alloc _).alloc _⟩
  case hmu =>
    rintro k W ⟨h1, h2, h3, h4⟩
    obtain ⟨H, hr⟩ := h4.ro
    refine ⟨h1, ?_⟩
    show R.N - R.at' W = R.N - k
    rw [R.at_eq hr]
  case hG =>
    rintro k W ⟨h1, h2, h3, h4⟩
    refine ⟨h3.2.2.1.cell, h3.2.2.2.cell, ?_⟩
    by_cases hlt : k < R.N
    · refine .inl ⟨hlt, (h4.step hfoot hB hlt (HF.out k hlt)).mono ?_⟩
      rintro e W2 ⟨rfl, hr, hbx, hsz, hl⟩
      refine ⟨rfl, hr, hlt, h2, (h3.keep fun j g1 g2 => hbx j (by omega) g2).alloc _, ?_⟩
      exact hl.alloc _
    · have hkN : k = R.N := by omega
      refine .inr ⟨hkN, (h4.stop _ hkN).mono ?_⟩
      rintro e W2 ⟨rfl, hr, hb, hl⟩
      rw [hkN] at h2 h3 hl
      exact ⟨rfl, hr, h2, (h3.keep fun j g1 g2 => hb.block j (by have := h4.size; omega)).alloc _, hl.alloc _⟩
  case hassign =>
    intro l k W K hi hK
    gi_wp2
    refine hK _ _ (KeepsRec.refl _) ⟨?_, hi⟩
    simp
  case hbody =>
    rintro l k a1 W ⟨rfl, hlt', hlm, hbx, hlp⟩ hlt
    obtain ⟨b0, b1, b2, b3⟩ := hbx
    have c0 := b0.cell
    have c1 := b1.cell
    have f1 := b1.frozen
    have ek : wrap64 ((k : Int) + 1) = (k : Int) + 1 := by unfold wrap64; omega
    have hlpk := (hlp.set (b := n0 + 1) (by omega) (by omega) 0 (.int .i64 ((k : Int) + 1)))
    have hbk : Bx4 n0 most (k + 1) p R.v (W.setCell ⟨n0 + 1, 0, none⟩ (.int .i64 ((k : Int) + 1))) := ⟨b0.other (by omega) _, by have := b1.set (.int .i64 ((k : Int) + 1)); simpa using this, b2.other (by omega) _, b3.other (by omega) _⟩
    have HL := Lib.hid hlpk; clear hlpk hlp
    have HBK := Lib.hid hbk; clear hbk
    have HR : Hid (KeepsRec W (W.setCell ⟨n0 + 1, 0, none⟩ (.int .i64 ((k : Int) + 1)))) := Lib.hid (KeepsRec.set b1)
    clear b0 b1 b2 b3
    by_cases he : (k : Int) + 1 = most
    · have hl2 := HL.out
      have hb2 := HBK.out
      have hr2 := HR.out
      rw [he] at hl2 hb2 hr2
      have HL := Lib.hid hl2
      have HBK := Lib.hid hb2
      have HR := Lib.hid hr2
      clear hl2 hb2 hr2
      gi_wp2
      exact ⟨HR.out, rfl, hlt', by simpa using he, HBK.out, HL.out⟩
    · gi_wp2
      exact ⟨HR.out, hlt', by have : (k : Int) + 1 ≠ most := he; simp only [Int.natCast_add, Int.natCast_one]; omega, HBK.out, HL.out⟩
  case hdone =>
    rintro D W hD ⟨hlm, hbx, hlp⟩ hK
    obtain ⟨H, hro⟩ := hlp.ro
    obtain ⟨x, hnx⟩ := next_any R hro (Nat.le_refl _)
    rw [decide_eq_false (by omega : ¬ R.N < R.N)] at hnx
    have KN := Lib.hid hnx
    have hc := hbx.2.1.cell
    have HBX := Lib.hid hbx
    have HLP := Lib.hid hlp
    have HK := Lib.hid hK
    clear hbx hlp hK hnx hro
    gi_wp2_with (gi_at_call 67; refine (callsIn_wide.2 KN.out).mono ?_; rintro e W2 ⟨rfl, hb⟩; have hc2 := ((boxed_keep HBX.out.2.1 (hb.block _ HBX.out.2.1.lt)).alloc (.cells #[.int .i64 x.k, .int .u64 x.b, .int .i64 x.c, .int .u64 x.o, .int .u64 x.n] 35)).cell)
    have hK2 := KeepsRec.alloc W2 (.cells #[.int .i64 x.k, .int .u64 x.b, .int .i64 x.c, .int .u64 x.o, .int .u64 x.n] 35) _ _ (KeepsRec.below hb _ _ HK.out rfl) rfl
    obtain ⟨Fz, Hz, hdz, htz⟩ := (((HLP.out.below hb).alloc (.cells #[.int .i64 x.k, .int .u64 x.b, .int .i64 x.c, .int .u64 x.o, .int .u64 x.n] 35)).putRec (o' := .deferred none) (by omega) hK2 rfl).out
    refine ⟨by simp, .inl ⟨_, _, rfl, run_takeDeferred hK2, ?_⟩⟩
    have hmin : min most.toNat R.N = R.N := by omega
    rw [hmin]
    exact ⟨_, results_tmp2 rfl _ _ _, by simp, Fz, Hz, hdz, htz⟩
  case hstop =>
    rintro D cd k W hD ⟨rfl, hkN, hkm, hbx, hlp⟩ hK
    obtain ⟨H, hro⟩ := hlp.ro
    obtain ⟨x, hnx⟩ := next_any R hro hkN
    have hmin : min most.toNat R.N = k := by omega
    obtain ⟨bt, hbt⟩ : ∃ bt, bt = decide (k < R.N) := ⟨_, rfl⟩
    rw [← hbt] at hnx
    have HBT := Lib.hid hbt
    have KN := Lib.hid hnx
    have hc := hbx.2.1.cell
    have HBX := Lib.hid hbx
    have HLP := Lib.hid hlp
    have HK := Lib.hid hK
    have HMIN := Lib.hid hmin
    clear hbx hlp hK hnx hro hbt hmin hkm
    gi_wp2_with (gi_at_call 67; refine (callsIn_wide.2 KN.out).mono ?_; rintro e W2 ⟨rfl, hb⟩; have hc2 := ((boxed_keep HBX.out.2.1 (hb.block _ HBX.out.2.1.lt)).alloc (.cells #[.int .i64 x.k, .int .u64 x.b, .int .i64 x.c, .int .u64 x.o, .int .u64 x.n] 35)).cell)
    have hK2 := KeepsRec.alloc W2 (.cells #[.int .i64 x.k, .int .u64 x.b, .int .i64 x.c, .int .u64 x.o, .int .u64 x.n] 35) _ _ (KeepsRec.below hb _ _ HK.out rfl) rfl
    obtain ⟨Fz, Hz, hdz, htz⟩ := (((HLP.out.below hb).alloc (.cells #[.int .i64 x.k, .int .u64 x.b, .int .i64 x.c, .int .u64 x.o, .int .u64 x.n] 35)).putRec (o' := .deferred none) (by omega) hK2 rfl).out
    refine ⟨by simp, .inl ⟨_, _, rfl, run_takeDeferred hK2, ?_⟩⟩
    rw [HMIN.out]
    have hbb : (!bt) = decide (R.N ≤ k) := by rw [HBT.out]; by_cases h : k < R.N <;> simp [h] <;> omega
    exact ⟨_, results_tmp2 rfl _ _ _, by rw [← hbb]; rfl, Fz, Hz, hdz, htz⟩
/-- ████ Alone. ████ -/
theorem alone_any (R : Rt) {B : Nat} {w : World} {p : Nat} {Sm : Nat → Mem} {F0 H0 : Nat → Prop} (h : Du R B w p (Sm 0) 0 F0 H0) (hB : B ≤ w.heap.size) (most : Int)
    (hN : R.N ≤ 1000) (hD : ∀ k, k < R.N → DoesIt (Sm k) (R.xs k) (R.vs k) (Sm (k + 1))) :
    Calls Tryz.prog 17 #[.pointer (some ⟨p, 0, none⟩), R.v, .int .i64 most] w (Alones R B w F0 H0 p Sm (min most.toNat R.N)) := by
  by_cases hm : 0 < most
  · exact (callsIn_wide (n := 9)).1 (alone_in R 9 (by omega) h hB most hm hN hD)
  · rw [show min most.toNat R.N = 0 by omega]
    exact alone_zero R h hB most (by omega)
end Go.Proofs.YtknefjigdlbacaaGreatDoor
set_option linter.unusedSimpArgs false
set_option linter.unusedVariables false
namespace Go.Proofs.YtknefjigdlbacaaGreatDoor
open Go.RowKit Go.Maps
open Ac (A)
/-- A tape as a block: its answers, how many were read, whether it is over, and the act there. -/
def Tp (w : World) (t : Nat) (ad : Option Addr) (m c k : Nat) (o : Bool) (x : A) : Prop := w.heap[t]? = some (.cells #[.slice ad m c, .int .i64 (k : Int), .bool o, .int .i64 x.k, .int .u64 x.b, .int .i64 x.c, .int .u64 x.o, .int .u64 x.n] 45 (0, 0))
section
variable {w w' : World} {t m c k : Nat} {ad : Option Addr} {o : Bool} {x : A}
theorem Tp.lt (h : Tp w t ad m c k o x) : t < w.heap.size := (Array.getElem?_eq_some_iff.1 h).1
theorem Tp.keep (h : Tp w t ad m c k o x) (e : w'.heap[t]? = w.heap[t]?) : Tp w' t ad m c k o x := e.trans h
theorem Tp.below (h : Tp w t ad m c k o x) (hb : Below w.heap.size w w') : Tp w' t ad m c k o x := h.keep (hb.block t h.lt)
theorem Tp.fz (h : Tp w t ad m c k o x) (i : Nat) : w.frozen? ⟨t, i, none⟩ = false := by simp [World.frozen?, show w.heap[t]? = _ from h]
theorem Tp.c0 (h : Tp w t ad m c k o x) : w.cell? ⟨t, 0, none⟩ = some (.slice ad m c) := by simp [World.cell?, show w.heap[t]? = _ from h]
theorem Tp.c1 (h : Tp w t ad m c k o x) : w.cell? ⟨t, 1, none⟩ = some (.int .i64 (k : Int)) := by simp [World.cell?, show w.heap[t]? = _ from h]
theorem Tp.c2 (h : Tp w t ad m c k o x) : w.cell? ⟨t, 2, none⟩ = some (.bool o) := by simp [World.cell?, show w.heap[t]? = _ from h]
theorem Tp.c3 (h : Tp w t ad m c k o x) : w.cell? ⟨t, 3, none⟩ = some (.int .i64 x.k) := by simp [World.cell?, show w.heap[t]? = _ from h]
theorem Tp.c4 (h : Tp w t ad m c k o x) : w.cell? ⟨t, 4, none⟩ = some (.int .u64 (x.b : Int)) := by simp [World.cell?, show w.heap[t]? = _ from h]
theorem Tp.c5 (h : Tp w t ad m c k o x) : w.cell? ⟨t, 5, none⟩ = some (.int .i64 x.c) := by simp [World.cell?, show w.heap[t]? = _ from h]
theorem Tp.c6 (h : Tp w t ad m c k o x) : w.cell? ⟨t, 6, none⟩ = some (.int .u64 (x.o : Int)) := by simp [World.cell?, show w.heap[t]? = _ from h]
theorem Tp.c7 (h : Tp w t ad m c k o x) : w.cell? ⟨t, 7, none⟩ = some (.int .u64 (x.n : Int)) := by simp [World.cell?, show w.heap[t]? = _ from h]
theorem Tp.drew (h : Tp w t ad m c k o x) : Tp w.drew t ad m c k o x := h
/-- One more is read. -/
theorem Tp.seen (h : Tp w t ad m c k o x) : Tp (w.setCell ⟨t, 1, none⟩ (.int .i64 ((k : Int) + 1))) t ad m c (k + 1) o x := by
  unfold Tp at h ⊢
  rw [heap_setc h _ _]
  simp
/-- It is over: the act. -/
theorem Tp.ended (h : Tp w t ad m c k o x) (y : A) : Tp ((((((w.setCell ⟨t, 2, none⟩ (.bool true)).setCell ⟨t, 3, none⟩ (.int .i64 y.k)).setCell ⟨t, 4, none⟩ (.int .u64 (y.b : Int))).setCell ⟨t, 5, none⟩ (.int .i64 y.c)).setCell ⟨t, 6, none⟩ (.int .u64 (y.o : Int))).setCell ⟨t, 7, none⟩ (.int .u64 (y.n : Int))) t ad m c k true y := by
  unfold Tp at h ⊢
  rw [heap_setc (heap_setc (heap_setc (heap_setc (heap_setc (heap_setc h _ _) _ _) _ _) _ _) _ _) _ _]
  simp
end
theorem Chg.six {q : Nat} {w w' : World} (h : Chg q w w') (hq : q < w'.heap.size) (v2 v3 v4 v5 v6 v7 : Value) : Chg q w ((((((w'.setCell ⟨q, 2, none⟩ v2).setCell ⟨q, 3, none⟩ v3).setCell ⟨q, 4, none⟩ v4).setCell ⟨q, 5, none⟩ v5).setCell ⟨q, 6, none⟩ v6).setCell ⟨q, 7, none⟩ v7) := by
  refine (((((h.set 2 _ hq).set 3 _ ?_).set 4 _ ?_).set 5 _ ?_).set 6 _ ?_).set 7 _ ?_ <;> simpa [World.setCell] using hq
set_option maxRecDepth 100000 in
set_option maxHeartbeats 4000000 in
theorem tdo_over (w : World) (t m c k : Nat) (ad : Option Addr) (x0 x : A) (h : Tp w t ad m c k true x0) : Calls Tryz.prog 53 #[.pointer (some ⟨t, 0, none⟩), av x] w (Gives (.int .u64 0) w) := by
  obtain ⟨xk, xb, xc, xo, xn⟩ := x
  have hb : ∀ o, Below w.heap.size w (w.alloc o) := fun o => (Below.refl _ w).alloc (Nat.le_refl _) _
  have c2 := fun o => (h.below (hb o)).c2
  have HB := Lib.hid hb; clear hb h
  go_enter Tryz.func53, Tryz.ntmps53
  go_wp2
  go_ret
  exact ⟨rfl, HB.out _⟩
set_option maxRecDepth 100000 in
set_option maxHeartbeats 4000000 in
theorem tdo_got (w : World) (t m c k y : Nat) (b off : Nat) (x0 x : A) (h : Tp w t (some ⟨b, off, none⟩) m c k false x0) (hk : k < m) (hm : m ≤ 1000000) (hbt : b ≠ t) (hbl : b < w.heap.size) (hc : w.cell? ⟨b, off + k, none⟩ = some (.int .u64 (y : Int))) :
    Calls Tryz.prog 53 #[.pointer (some ⟨t, 0, none⟩), av x] w fun e w' => e = .returned (.int .u64 (y : Int)) ∧ Tp w' t (some ⟨b, off, none⟩) m c (k + 1) false x0 ∧ Chg t w w' := by
  obtain ⟨xk, xb, xc, xo, xn⟩ := x
  obtain ⟨W, hW⟩ : ∃ W, W = w.alloc (.cells #[.int .i64 xk, .int .u64 (xb : Int), .int .i64 xc, .int .u64 (xo : Int), .int .u64 (xn : Int)] 35) := ⟨_, rfl⟩
  have hb : Below w.heap.size w W := by rw [hW]; exact (Below.refl _ w).alloc (Nat.le_refl _) _
  have a2 := fun o => (h.below ((Below.refl _ w).alloc (Nat.le_refl _) o)).c2
  have HM := Lib.hid (h.below hb)
  have HC := Lib.hid (show W.cell? ⟨b, off + k, none⟩ = some (.int .u64 (y : Int)) from (hb.cell (p := ⟨b, off + k, none⟩) hbl).trans hc)
  have HX := Lib.hid hbt
  have HB := Lib.hid hb
  have hlt : decide ((k : Int) < (m : Int)) = true := by simp; omega
  clear h hb hbl hc hbt
  go_enter Tryz.func53, Tryz.ntmps53
  go_wp2
  rw [← hW]
  clear a2 hW
  have c0 := HM.out.c0
  have c1 := HM.out.c1
  have f1 := HM.out.fz 1
  go_region
  all_goals go_wp2
  all_goals obtain ⟨V, hV⟩ : ∃ V, V = (W.setCell ⟨t, 1, none⟩ (.int .i64 ((k : Int) + 1))).drew := ⟨_, rfl⟩
  all_goals rw [← hV]
  all_goals have HT : Hid (Tp V t (some ⟨b, off, none⟩) m c (k + 1) false x0) := Lib.hid (by rw [hV]; exact HM.out.seen.drew)
  all_goals have HG : Hid (Chg t w V) := Lib.hid (by rw [hV]; exact (Chg.set (Tn.of_below HB.out) 1 _ HM.out.lt).drew)
  all_goals have hc := (show V.cell? ⟨b, off + k, none⟩ = some (.int .u64 (y : Int)) by
    rw [hV]
    refine Eq.trans ?_ HC.out
    show (W.setCell ⟨t, 1, none⟩ (.int .i64 ((k : Int) + 1))).cell? _ = _
    rw [World.cell?, World.cell?, Below.heap_setCell _ _ _ _ HX.out])
  all_goals clear hV c0 c1 f1
  all_goals have c0 := HT.out.c0
  all_goals have c1 := HT.out.c1
  all_goals obtain ⟨j, hj⟩ : ∃ j, j = k + 1 := ⟨_, rfl⟩
  all_goals rw [← hj] at c1 HT
  all_goals have hj1 : (j : Int) - 1 = (k : Int) := by omega
  all_goals have hkm : (k : Int) < (m : Int) := by omega
  all_goals have HJ := Lib.hid hj
  all_goals clear hj hlt
  all_goals go_region
  all_goals go_wp2
  all_goals go_ret
  all_goals exact ⟨rfl, HJ.out ▸ HT.out.drew, HG.out.drew⟩
set_option maxRecDepth 100000 in
set_option maxHeartbeats 4000000 in
theorem tdo_end (w : World) (t m c k : Nat) (ad : Option Addr) (x0 x : A) (h : Tp w t ad m c k false x0) (hk : m ≤ k) :
    Calls Tryz.prog 53 #[.pointer (some ⟨t, 0, none⟩), av x] w fun e w' => e = .returned (.int .u64 0) ∧ Tp w' t ad m c k true x ∧ Chg t w w' := by
  obtain ⟨xk, xb, xc, xo, xn⟩ := x
  obtain ⟨W, hW⟩ : ∃ W, W = w.alloc (.cells #[.int .i64 xk, .int .u64 (xb : Int), .int .i64 xc, .int .u64 (xo : Int), .int .u64 (xn : Int)] 35) := ⟨_, rfl⟩
  have hb : Below w.heap.size w W := by rw [hW]; exact (Below.refl _ w).alloc (Nat.le_refl _) _
  have a2 := fun o => (h.below ((Below.refl _ w).alloc (Nat.le_refl _) o)).c2
  have HM := Lib.hid (h.below hb)
  have HB := Lib.hid hb
  have hlt : decide ((k : Int) < (m : Int)) = false := by simp; omega
  have HT := Lib.hid (show t ≠ w.heap.size by have := h.lt; omega)
  clear h hb
  go_enter Tryz.func53, Tryz.ntmps53
  go_wp2
  rw [← hW]
  clear a2
  have c0 := HM.out.c0
  have c1 := HM.out.c1
  have f1 := HM.out.fz 1
  have c2 := HM.out.c2
  have c3 := HM.out.c3
  have c4 := HM.out.c4
  have c5 := HM.out.c5
  have c6 := HM.out.c6
  have c7 := HM.out.c7
  have f2 := HM.out.fz 2
  have f3 := HM.out.fz 3
  have f4 := HM.out.fz 4
  have f5 := HM.out.fz 5
  have f6 := HM.out.fz 6
  have f7 := HM.out.fz 7
  obtain ⟨e0, e1, e2, e3, e4⟩ := mbox w ⟨xk, xb, xc, xo, xn⟩
  rw [show boxed w ⟨xk, xb, xc, xo, xn⟩ = W from hW.symm] at e0 e1 e2 e3 e4
  dsimp only at e0 e1 e2 e3 e4
  have hm : t ≠ w.heap.size := HT.out
  clear hW
  generalize w.heap.size = z at e0 e1 e2 e3 e4 hm ⊢
  go_region
  all_goals go_wp2
  all_goals go_ret
  all_goals exact ⟨rfl, (HM.out.ended ⟨xk, xb, xc, xo, xn⟩).drew, (Chg.six (Tn.of_below HB.out) HM.out.lt _ _ _ _ _ _).drew⟩
end Go.Proofs.YtknefjigdlbacaaGreatDoor
