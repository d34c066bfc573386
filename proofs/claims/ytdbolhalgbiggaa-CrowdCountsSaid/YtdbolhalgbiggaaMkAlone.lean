/-
  The walk of Alone. By an AI agent.
-/
import Derived.Test.YtdbolhalgbiggaaMkLp
set_option linter.unusedSimpArgs false
set_option linter.unusedVariables false
namespace Go.Proofs.Ytdbolhalgbiggaa
open Go.RowKit Go.Shelf Go.Maps
open Mm (Mem Blk)
open Ac (A)
attribute [local go_sem] Oper.semAt_some
/-- What Alone comes to: d acts were done. -/
def Alones (R : Rt) (B : Nat) (w : World) (F0 H0 : Nat → Prop) (p : Nat) (Sm : Nat → Mem) (d : Nat) (e : Ending) (w' : World) : Prop :=
  e = .returned (.tuple #[.int .i64 (d : Int), .bool (decide (R.N ≤ d))]) ∧ ∃ F H, Du R B w' p (Sm d) d F H ∧ Tn (Or2 F0 H0) (Or2 F H) w w'
/-- The boxes of Alone. -/
def Bx4 (n0 : Nat) (most : Int) (k p : Nat) (rr : Value) (W : World) : Prop := Boxed W n0 3 (.int .i64 most) ∧ Boxed W (n0 + 1) 3 (.int .i64 (k : Int)) ∧ Boxed W (n0 + 1 + 1) 44 (.pointer (some ⟨p, 0, none⟩)) ∧ Boxed W (n0 + 1 + 1 + 1) 62 rr
theorem Bx4.keep {n0 : Nat} {most : Int} {k p : Nat} {rr : Value} {W W' : World} (h : Bx4 n0 most k p rr W) (hk : ∀ j, n0 ≤ j → j < n0 + 4 → W'.heap[j]? = W.heap[j]?) : Bx4 n0 most k p rr W' :=
  ⟨boxed_keep h.1 (hk _ (by omega) (by omega)), boxed_keep h.2.1 (hk _ (by omega) (by omega)), boxed_keep h.2.2.1 (hk _ (by omega) (by omega)), boxed_keep h.2.2.2 (hk _ (by omega) (by omega))⟩
theorem Bx4.alloc {n0 : Nat} {most : Int} {k p : Nat} {rr : Value} {W : World} (h : Bx4 n0 most k p rr W) (o : Obj) : Bx4 n0 most k p rr (W.alloc o) := ⟨h.1.alloc _, h.2.1.alloc _, h.2.2.1.alloc _, h.2.2.2.alloc _⟩
theorem Bx4.putRec {n0 : Nat} {most : Int} {k p : Nat} {rr : Value} {W w4 : World} (h : Bx4 n0 most k p rr W) {l : Nat} {o o' : Obj} (hl : w4.heap.size ≤ l) (hz : w4.heap.size = n0 + 4) (ho : W.heap[l]? = some o) : Bx4 n0 most k p rr (W.putObj l o') :=
  h.keep fun j _ _ => World.putObj_heap_other (by omega)
set_option maxRecDepth 100000 in
set_option maxHeartbeats 4000000 in
theorem alone_zero (R : Rt) {B : Nat} {w : World} {p : Nat} {Sm : Nat → Mem} {F0 H0 : Nat → Prop} (h : Du R B w p (Sm 0) 0 F0 H0) (hB : B ≤ w.heap.size) (most : Int) (hm : most ≤ 0) :
    Calls Try.prog 17 #[.pointer (some ⟨p, 0, none⟩), R.v, .int .i64 most] w (Alones R B w F0 H0 p Sm 0) := by
  have hd : decide (0 < most) = false := by simp; omega
  have KN : Hid (∀ w1, Below w.heap.size w w1 → ∃ x, Calls Try.prog 32 #[R.v] w1 (Gives (.tuple #[av x, .bool (decide (0 < R.N))]) w1)) := Lib.hid (fun w1 hb => next_any R (R.below h.ro hb) (Nat.zero_le _))
  have HD := Lib.hid h; clear h
  go_enter Try.func17, Try.ntmps17
  go_wp2_with fail
  obtain ⟨W, hW⟩ : ∃ W, W = (w.alloc (.cells #[.int .i64 most] 3)).alloc (.cells #[.int .i64 0] 3) := ⟨_, rfl⟩
  have hb : Below w.heap.size w W := by rw [hW]; exact ((Below.refl _ w).alloc (Nat.le_refl _) _).alloc (by simp) _
  have k1 : Boxed W (w.heap.size + 1) 3 (.int .i64 0) := by rw [hW]; have := Boxed.new (w.alloc (.cells #[.int .i64 most] 3)) 3 (.int .i64 0); rwa [World.size_alloc] at this
  rw [← hW]
  clear hW
  obtain ⟨x, K⟩ := KN.out W hb
  with_reducible refine K.mono ?_
  rintro e w1 ⟨rfl, hb1⟩
  have hbb := hb.trans (hb1.mono hb.size)
  have hbx : Below w1.heap.size w1 (boxed w1 x) := boxed_below _ _
  have hbz := hbb.trans (hbx.mono hbb.size)
  have c1 := (boxed_keep (boxed_keep k1 (hb1.block _ k1.lt)) (hbx.block _ (Nat.lt_of_lt_of_le k1.lt hb1.size))).cell
  have HB := Lib.hid hbz
  clear hb hb1 hbb hbx hbz k1 K KN
  go_wp2
  refine bodyPost_ret (v := .tuple #[.int .i64 0, .bool (decide (R.N ≤ 0))]) (by simp [results, Try.results17, go_sem]; cases R.N <;> simp) rfl ⟨rfl, F0, H0, ?_, Tn.of_below HB.out⟩
  exact HD.out.below HB.out
set_option maxRecDepth 100000 in
set_option maxHeartbeats 4000000 in
theorem alone_in (R : Rt) (n : Nat) (hn : 9 ≤ n) {B : Nat} {w : World} {p : Nat} {Sm : Nat → Mem} {F0 H0 : Nat → Prop} (h : Du R B w p (Sm 0) 0 F0 H0) (hB : B ≤ w.heap.size) (most : Int) (hm : 0 < most)
    (hN : R.N ≤ 1000) (hD : ∀ k, k < R.N → DoesIt (Sm k) (R.xs k) (R.vs k) (Sm (k + 1))) :
    CallsIn Fence.wide n Try.prog 17 #[.pointer (some ⟨p, 0, none⟩), R.v, .int .i64 most] w (Alones R B w F0 H0 p Sm (min most.toNat R.N)) := by
  have hd : decide (0 < most) = true := by simp; omega
  have g1 : 1 ≤ n := by omega
  have HD := Lib.hid h; clear h
  have HF := Lib.hid hD; clear hD
  have KS := Lib.hid (fun (n : Nat) (w1 : World) => steps_call n (.pointer (some ⟨p, 0, none⟩)) R.v rfl R.one w1)
  have hf1 : Fence.wide.fn 31 := trivial
  have hf2 : Fence.wide.fn 32 := trivial
  refine callsIn_of_wp_marks Try.func17 rfl trivial ?_ rfl
  simp only [Try.ntmps17, List.size_toArray, List.length_cons, List.length_nil, Nat.reduceAdd, Nat.reduceSub, Array.replicate_succ, Array.replicate_zero, List.push_toArray, List.append_toArray, List.nil_append, List.cons_append]
  gi_wp2_with (gi_at_call 31; refine (KS.out _ _).mono ?_; rintro e w1 ⟨rfl, rfl⟩)
  obtain ⟨w4, hw4⟩ : ∃ w4, w4 = ((((w.alloc (.cells #[.int .i64 most] 3)).alloc (.cells #[.int .i64 0] 3)).alloc (.cells #[.pointer (some ⟨p, 0, none⟩)] 44)).alloc (.cells #[R.v] 62)) := ⟨_, rfl⟩
  have hz4 : w4.heap.size = w.heap.size + 4 := by rw [hw4]; simp
  have hb4 : Below w.heap.size w w4 := by rw [hw4]; exact ((((Below.refl _ w).alloc (Nat.le_refl _) _).alloc (by simp) _).alloc (by simp; omega) _).alloc (by simp; omega) _
  have x0 : Boxed w4 w.heap.size 3 (.int .i64 most) := by rw [hw4]; exact (((Boxed.new w 3 (.int .i64 most)).alloc _).alloc _).alloc _
  have x1 : Boxed w4 (w.heap.size + 1) 3 (.int .i64 0) := by rw [hw4]; have := Boxed.new (w.alloc (.cells #[.int .i64 most] 3)) 3 (.int .i64 0); rw [World.size_alloc] at this; exact (this.alloc _).alloc _
  have x2 : Boxed w4 (w.heap.size + 1 + 1) 44 (.pointer (some ⟨p, 0, none⟩)) := by rw [hw4]; have := Boxed.new ((w.alloc (.cells #[.int .i64 most] 3)).alloc (.cells #[.int .i64 0] 3)) 44 (.pointer (some ⟨p, 0, none⟩)); rw [World.size_alloc, World.size_alloc] at this; exact this.alloc _
  have x3 : Boxed w4 (w.heap.size + 1 + 1 + 1) 62 (R.v) := by rw [hw4]; have := Boxed.new (((w.alloc (.cells #[.int .i64 most] 3)).alloc (.cells #[.int .i64 0] 3)).alloc (.cells #[.pointer (some ⟨p, 0, none⟩)] 44)) 62 (R.v); rw [World.size_alloc, World.size_alloc, World.size_alloc] at this; exact this
  rw [← hw4]
  clear hw4
  obtain ⟨n0, hn0⟩ : ∃ n0, n0 = w.heap.size := ⟨_, rfl⟩
  rw [← hn0] at x0 x1 x2 x3 hz4 ⊢
  have hnA : w.heap.size ≤ n0 := by omega
  have hnB : n0 ≤ w.heap.size := by omega
  clear hn0
  have L0 : Lp R B w F0 H0 p (Sm 0) 0 (n0 + 4) w4 := Lp.start HD.out hb4 (by omega)
  have hfoot : ∀ k, Or2 F0 H0 k → B ≤ k := fun k hk => (HD.out.foot hk).1
  refine range_steps (by omega) (n0 + 1 + 1) (n0 + 1 + 1 + 1) (.pointer (some ⟨p, 0, none⟩)) R.v rfl rfl R.N R.xs R.vs
    (fun k W => k ≤ R.N ∧ (k : Int) < most ∧ Bx4 n0 most k p R.v W ∧ Lp R B w F0 H0 p (Sm k) k (n0 + 4) W)
    (fun k W => k < R.N ∧ (k : Int) < most ∧ Bx4 n0 most k p R.v W ∧ Lp R B w F0 H0 p (Sm (k + 1)) (k + 1) (n0 + 4) W)
    (fun k a1 W => a1 = { tmps := #[.pointer (some ⟨p, 0, none⟩), R.v, .int .i64 most, undef, undef, .pointer (some ⟨n0, 0, none⟩), .int .i64 0, .bool false, .pointer (some ⟨n0 + 1, 0, none⟩), undef, undef, .int .i64 most, .bool true, .pointer (some ⟨p, 0, none⟩), R.v, .func (.func 41) #[] #[.pointer (some ⟨n0 + 1 + 1, 0, none⟩), .pointer (some ⟨n0 + 1 + 1 + 1, 0, none⟩)], av (R.xs k), .int .u64 (R.vs k), undef, undef, undef, undef, undef, undef, undef, undef, undef, undef, undef, undef, undef], defers := [] } ∧ (k < R.N ∧ (k : Int) < most ∧ Bx4 n0 most k p R.v W ∧ Lp R B w F0 H0 p (Sm (k + 1)) (k + 1) (n0 + 4) W))
    (fun W => (R.N : Int) < most ∧ Bx4 n0 most R.N p R.v W ∧ Lp R B w F0 H0 p (Sm R.N) R.N (n0 + 4) W)
    (fun cd k W => cd = .exit 0 ∧ k ≤ R.N ∧ (k : Int) = most ∧ Bx4 n0 most k p R.v W ∧ Lp R B w F0 H0 p (Sm k) k (n0 + 4) W)
    (fun W => R.N - R.at' W) ?bI ?bI2 ?bd ?bx ?h0 ?hmu ?hG ?hassign ?hbody ?hdone ?hstop
  case bI => exact fun s W l o o' ⟨h1, h2, h3, h4⟩ hl ho hr hr' => ⟨h1, h2, h3.putRec hl hz4 ho, h4.putRec (by omega) ho hr⟩
  case bI2 => exact fun s W l o o' ⟨h0, h1, h2, h3, h4⟩ hl ho hr hr' => ⟨h0, h1, h2, h3.putRec hl hz4 ho, h4.putRec (by omega) ho hr⟩
  case bd => exact fun s W l o o' ⟨h2, h3, h4⟩ hl ho hr hr' => ⟨h2, h3.putRec hl hz4 ho, h4.putRec (by omega) ho hr⟩
  case bx => exact fun cd s W l o o' ⟨h0, h1, h2, h3, h4⟩ hl ho hr hr' => ⟨h0, h1, h2, h3.putRec hl hz4 ho, h4.putRec (by omega) ho hr⟩
  case h0 => exact fun r => ⟨Nat.zero_le _, hm, ⟨(x0.alloc _).alloc _, (x1.alloc _).alloc _, (x2.alloc _).alloc _, (x3.alloc _).alloc _⟩, (L0.alloc _).alloc _⟩
  case hmu =>
    rintro k W ⟨h1, h2, h3, h4⟩
    obtain ⟨H, hr⟩ := h4.ro
    refine ⟨h1, ?_⟩
    show R.N - R.at' W = R.N - k
    rw [R.at_eq hr]
  case hG =>
    rintro k W ⟨h1, h2, h3, h4⟩
    refine ⟨h3.2.2.1.cell, h3.2.2.2.cell, ?_⟩
    by_cases hlt : k < R.N
    · refine .inl ⟨hlt, (h4.step hfoot hB hlt (HF.out k hlt)).mono ?_⟩
      rintro e W2 ⟨rfl, hr, hbx, hsz, hl⟩
      refine ⟨rfl, hr, hlt, h2, (h3.keep fun j g1 g2 => hbx j (by omega) g2).alloc _, ?_⟩
      exact hl.alloc _
    · have hkN : k = R.N := by omega
      refine .inr ⟨hkN, (h4.stop _ hkN).mono ?_⟩
      rintro e W2 ⟨rfl, hr, hb, hl⟩
      rw [hkN] at h2 h3 hl
      exact ⟨rfl, hr, h2, (h3.keep fun j g1 g2 => hb.block j (by have := h4.size; omega)).alloc _, hl.alloc _⟩
  case hassign =>
    intro l k W K hi hK
    gi_wp2
    refine hK _ _ (KeepsRec.refl _) ⟨?_, hi⟩
    simp
  case hbody =>
    rintro l k a1 W ⟨rfl, hlt', hlm, hbx, hlp⟩ hlt
    obtain ⟨b0, b1, b2, b3⟩ := hbx
    have c0 := b0.cell
    have c1 := b1.cell
    have f1 := b1.frozen
    have ek : wrap64 ((k : Int) + 1) = (k : Int) + 1 := by unfold wrap64; omega
    have hlpk := (hlp.set (b := n0 + 1) (by omega) (by omega) 0 (.int .i64 ((k : Int) + 1)))
    have hbk : Bx4 n0 most (k + 1) p R.v (W.setCell ⟨n0 + 1, 0, none⟩ (.int .i64 ((k : Int) + 1))) := ⟨b0.other (by omega) _, by have := b1.set (.int .i64 ((k : Int) + 1)); simpa using this, b2.other (by omega) _, b3.other (by omega) _⟩
    have HL := Lib.hid hlpk; clear hlpk hlp
    have HBK := Lib.hid hbk; clear hbk
    have HR : Hid (KeepsRec W (W.setCell ⟨n0 + 1, 0, none⟩ (.int .i64 ((k : Int) + 1)))) := Lib.hid (KeepsRec.set b1)
    clear b0 b1 b2 b3
    by_cases he : (k : Int) + 1 = most
    · have hl2 := HL.out
      have hb2 := HBK.out
      have hr2 := HR.out
      rw [he] at hl2 hb2 hr2
      have HL := Lib.hid hl2
      have HBK := Lib.hid hb2
      have HR := Lib.hid hr2
      clear hl2 hb2 hr2
      gi_wp2
      exact ⟨HR.out, rfl, hlt', by simpa using he, HBK.out, HL.out⟩
    · gi_wp2
      exact ⟨HR.out, hlt', by have : (k : Int) + 1 ≠ most := he; simp only [Int.natCast_add, Int.natCast_one]; omega, HBK.out, HL.out⟩
  case hdone =>
    rintro D W hD ⟨hlm, hbx, hlp⟩ hK
    obtain ⟨H, hro⟩ := hlp.ro
    obtain ⟨x, hnx⟩ := next_any R hro (Nat.le_refl _)
    rw [decide_eq_false (by omega : ¬ R.N < R.N)] at hnx
    have KN := Lib.hid hnx
    have hc := hbx.2.1.cell
    have HBX := Lib.hid hbx
    have HLP := Lib.hid hlp
    have HK := Lib.hid hK
    clear hbx hlp hK hnx hro
    gi_wp2_with (gi_at_call 32; refine (callsIn_wide.2 KN.out).mono ?_; rintro e W2 ⟨rfl, hb⟩; have hc2 := ((boxed_keep HBX.out.2.1 (hb.block _ HBX.out.2.1.lt)).alloc (.cells #[.int .i64 x.k, .int .u64 x.b, .int .i64 x.c, .int .u64 x.o, .int .u64 x.n] 30)).cell)
    have hK2 := KeepsRec.alloc W2 (.cells #[.int .i64 x.k, .int .u64 x.b, .int .i64 x.c, .int .u64 x.o, .int .u64 x.n] 30) _ _ (KeepsRec.below hb _ _ HK.out rfl) rfl
    obtain ⟨Fz, Hz, hdz, htz⟩ := (((HLP.out.below hb).alloc (.cells #[.int .i64 x.k, .int .u64 x.b, .int .i64 x.c, .int .u64 x.o, .int .u64 x.n] 30)).putRec (o' := .deferred none) (by omega) hK2 rfl).out
    refine ⟨by simp, .inl ⟨_, _, rfl, run_takeDeferred hK2, ?_⟩⟩
    have hmin : min most.toNat R.N = R.N := by omega
    rw [hmin]
    exact ⟨_, results_tmp2 rfl _ _ _, by simp, Fz, Hz, hdz, htz⟩
  case hstop =>
    rintro D cd k W hD ⟨rfl, hkN, hkm, hbx, hlp⟩ hK
    obtain ⟨H, hro⟩ := hlp.ro
    obtain ⟨x, hnx⟩ := next_any R hro hkN
    have hmin : min most.toNat R.N = k := by omega
    obtain ⟨bt, hbt⟩ : ∃ bt, bt = decide (k < R.N) := ⟨_, rfl⟩
    rw [← hbt] at hnx
    have HBT := Lib.hid hbt
    have KN := Lib.hid hnx
    have hc := hbx.2.1.cell
    have HBX := Lib.hid hbx
    have HLP := Lib.hid hlp
    have HK := Lib.hid hK
    have HMIN := Lib.hid hmin
    clear hbx hlp hK hnx hro hbt hmin hkm
    gi_wp2_with (gi_at_call 32; refine (callsIn_wide.2 KN.out).mono ?_; rintro e W2 ⟨rfl, hb⟩; have hc2 := ((boxed_keep HBX.out.2.1 (hb.block _ HBX.out.2.1.lt)).alloc (.cells #[.int .i64 x.k, .int .u64 x.b, .int .i64 x.c, .int .u64 x.o, .int .u64 x.n] 30)).cell)
    have hK2 := KeepsRec.alloc W2 (.cells #[.int .i64 x.k, .int .u64 x.b, .int .i64 x.c, .int .u64 x.o, .int .u64 x.n] 30) _ _ (KeepsRec.below hb _ _ HK.out rfl) rfl
    obtain ⟨Fz, Hz, hdz, htz⟩ := (((HLP.out.below hb).alloc (.cells #[.int .i64 x.k, .int .u64 x.b, .int .i64 x.c, .int .u64 x.o, .int .u64 x.n] 30)).putRec (o' := .deferred none) (by omega) hK2 rfl).out
    refine ⟨by simp, .inl ⟨_, _, rfl, run_takeDeferred hK2, ?_⟩⟩
    rw [HMIN.out]
    have hbb : (!bt) = decide (R.N ≤ k) := by rw [HBT.out]; by_cases h : k < R.N <;> simp [h] <;> omega
    exact ⟨_, results_tmp2 rfl _ _ _, by rw [← hbb]; rfl, Fz, Hz, hdz, htz⟩
/-- ████ Alone. ████ -/
theorem alone_any (R : Rt) {B : Nat} {w : World} {p : Nat} {Sm : Nat → Mem} {F0 H0 : Nat → Prop} (h : Du R B w p (Sm 0) 0 F0 H0) (hB : B ≤ w.heap.size) (most : Int)
    (hN : R.N ≤ 1000) (hD : ∀ k, k < R.N → DoesIt (Sm k) (R.xs k) (R.vs k) (Sm (k + 1))) :
    Calls Try.prog 17 #[.pointer (some ⟨p, 0, none⟩), R.v, .int .i64 most] w (Alones R B w F0 H0 p Sm (min most.toNat R.N)) := by
  by_cases hm : 0 < most
  · exact (callsIn_wide (n := 9)).1 (alone_in R 9 (by omega) h hB most hm hN hD)
  · rw [show min most.toNat R.N = 0 by omega]
    exact alone_zero R h hB most (by omega)
end Go.Proofs.Ytdbolhalgbiggaa
