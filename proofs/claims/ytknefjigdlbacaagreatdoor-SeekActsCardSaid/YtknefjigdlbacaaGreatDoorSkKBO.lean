/-
  Several texts in one: What a loop over acts leaves alone; The walk of Alone; A maker, done alone on a new arena. By an AI agent.
-/
import Derived.Test.YtknefjigdlbacaaGreatDoorSkKBN
import Derived.Test.YtknefjigdlbacaaGreatDoorSkKAO
set_option linter.unusedSimpArgs false
set_option linter.unusedVariables false
namespace Go.Proofs.YtknefjigdlbacaaGreatDoor
open Go.RowKit Go.Shelf Go.Maps
open Mm (Mem Blk)
open Ac (A)
section
variable {R : Rt} {B : Nat} {w W W' : World} {p k n1 : Nat} {S S' : Mem} {F F' H H' F0 H0 : Nat → Prop}
theorem Ax.norec (h : Ax B W p S F) {k : Nat} (hk : F k) {o : Obj} (ho : W.heap[k]? = some o) : isRec o = false := by
  obtain ⟨m, g, ha, rfl⟩ := h
  rcases hk with rfl | rfl | ⟨b, hb, rfl⟩
  · rw [ha.own] at ho; cases ho; rfl
  · obtain ⟨n, D, _, ⟨es, cc, hm, _⟩, _⟩ := ha.map
    rw [hm] at ho; cases ho; rfl
  · obtain ⟨tl, hw⟩ := (ha.row b hb).2
    rw [hw] at ho; cases ho; rfl
theorem Du.norec (h : Du R B W p S k F H) {j : Nat} (hk : Or2 F H j) {o : Obj} (ho : W.heap[j]? = some o) : isRec o = false :=
  hk.elim (fun e => h.ar.norec e ho) (fun e => R.norec h.ro e ho)
/-- An arena and a routine inside a loop whose own boxes lie from w's end up to n1. -/
def Lp (R : Rt) (B : Nat) (w : World) (F0 H0 : Nat → Prop) (p : Nat) (S : Mem) (k n1 : Nat) (W : World) : Prop :=
  (n1 ≤ W.heap.size ∧ B ≤ w.heap.size) ∧ ∃ F H, Du R B W p S k F H ∧ Tn (Or2 F0 H0) (Or2 F H) w W ∧ ∀ j, Or2 F H j → j < w.heap.size ∨ n1 ≤ j
theorem Lp.start (h : Du R B w p S k F0 H0) (hb : Below w.heap.size w W) (hn : n1 ≤ W.heap.size) (hB : B ≤ w.heap.size) : Lp R B w F0 H0 p S k n1 W :=
  ⟨⟨hn, hB⟩, F0, H0, h.below hb, Tn.of_below hb, fun k hk => .inl (h.foot hk).2⟩
theorem Du.keep (h : Du R B W p S k F H) (hk : ∀ k, Or2 F H k → W'.heap[k]? = W.heap[k]?) (hbd : Bd W → Bd W') : Du R B W' p S k F H := ⟨h.ar.keep fun k e => hk k (.inl e), R.keep h.ro (fun k e => hk k (.inr e)) hbd, h.apart, h.low⟩
theorem Lp.keep (h : Lp R B w F0 H0 p S k n1 W) (ho : W'.os = W.os) (ht : W'.tape = W.tape) (hu : W'.output = W.output) (hs : W.heap.size ≤ W'.heap.size)
    (hk : ∀ k, k < W.heap.size → (k < w.heap.size ∨ (n1 ≤ k ∧ ∀ o, W.heap[k]? = some o → isRec o = false)) → W'.heap[k]? = W.heap[k]?) : Lp R B w F0 H0 p S k n1 W' := by
  obtain ⟨hn, F, H, hd, ht', hf⟩ := h
  refine ⟨⟨Nat.le_trans hn.1 hs, hn.2⟩, F, H, hd.keep (fun k e => hk k (hd.foot e).2 ((hf k e).imp id fun h1 => ⟨h1, fun o ho => hd.norec e ho⟩)) (fun e => e.block (hk _ e.lt (.inl (by have := hd.low; have := hn.2; omega)))), ⟨ho.trans ht'.os, ht.trans ht'.tape, hu.trans ht'.output, Nat.le_trans ht'.size hs, fun k h1 h2 => (hk k (Nat.lt_of_lt_of_le h1 ht'.size) (.inl h1)).trans (ht'.block k h1 h2), ht'.foot⟩, hf⟩
theorem Lp.below (h : Lp R B w F0 H0 p S k n1 W) (hb : Below W.heap.size W W') : Lp R B w F0 H0 p S k n1 W' := h.keep hb.os hb.tape hb.output hb.size fun k hk _ => hb.block k hk
theorem Lp.alloc (h : Lp R B w F0 H0 p S k n1 W) (o : Obj) : Lp R B w F0 H0 p S k n1 (W.alloc o) := h.below ((Below.refl _ _).alloc (Nat.le_refl _) _)
theorem Lp.set (h : Lp R B w F0 H0 p S k n1 W) {b : Nat} (h1 : w.heap.size ≤ b) (h2 : b < n1) (o : Nat) (v : Value) : Lp R B w F0 H0 p S k n1 (W.setCell ⟨b, o, none⟩ v) :=
  h.keep rfl rfl rfl (by simp [World.setCell]) fun k _ hk => Below.heap_setCell _ _ _ _ (fun e => by have e' : k = b := e; omega)
theorem Lp.putRec (h : Lp R B w F0 H0 p S k n1 W) {l : Nat} {o o' : Obj} (hl : w.heap.size ≤ l) (ho : W.heap[l]? = some o) (hr : isRec o = true) : Lp R B w F0 H0 p S k n1 (W.putObj l o') :=
  h.keep rfl rfl rfl (by simp [World.putObj]) fun k _ hk => World.putObj_heap_other (fun e => by
    subst e
    rcases hk with hk | hk
    · omega
    · have := hk.2 o ho; rw [hr] at this; cases this)
theorem Lp.out (h : Lp R B w F0 H0 p S k n1 W) : ∃ F H, Du R B W p S k F H ∧ Tn (Or2 F0 H0) (Or2 F H) w W := by
  obtain ⟨_, F, H, hd, ht, _⟩ := h
  exact ⟨F, H, hd, ht⟩
theorem Lp.size (h : Lp R B w F0 H0 p S k n1 W) : n1 ≤ W.heap.size := h.1.1
theorem Lp.wsize (h : Lp R B w F0 H0 p S k n1 W) : w.heap.size ≤ W.heap.size := let ⟨_, _, _, _, ht, _⟩ := h; ht.size
theorem Lp.ro (h : Lp R B w F0 H0 p S k n1 W) : ∃ H, R.St B W k H := by
  obtain ⟨_, F, H, hd, ht, _⟩ := h
  exact ⟨H, hd.ro⟩
/-- A box outlives what its own block outlives. -/
theorem boxed_keep {t : TypeId} {v : Value} {b : Nat} (h : Boxed W b t v) (hk : W'.heap[b]? = W.heap[b]?) : Boxed W' b t v := hk.trans h
/-- The next act, in a loop. -/
theorem Lp.step (h : Lp R B w F0 H0 p S k n1 W) (h0 : ∀ k, Or2 F0 H0 k → B ≤ k) (hB : B ≤ w.heap.size) (hm : k < R.N) (hD : DoesIt S (R.xs k) (R.vs k) S') :
    Calls Tryz.prog 65 #[.pointer (some ⟨p, 0, none⟩), R.v] W fun e W2 => e = .returned (.tuple #[av (R.xs k), .int .u64 (R.vs k), .bool true]) ∧ KeepsRec W W2 ∧ (∀ k, w.heap.size ≤ k → k < n1 → W2.heap[k]? = W.heap[k]?) ∧ W.heap.size ≤ W2.heap.size ∧ Lp R B w F0 H0 p S' (k + 1) n1 W2 := by
  obtain ⟨hn, F, H, hd, ht, hf⟩ := h
  have hbW : Below B w W := ht.below h0 hB
  refine (goon_more R hd (Nat.le_trans hB ht.size) hm hD).mono ?_
  rintro e W2 ⟨rfl, F', H', hd', ht'⟩
  refine ⟨rfl, fun k o hk ho => (ht'.block k (Array.getElem?_eq_some_iff.1 hk).1 (fun e => by have := hd.norec e hk; rw [this] at ho; cases ho)).trans hk, fun k h1 h2 => ht'.block k (by have := hn.1; omega) (fun e => by rcases hf k e with e | e <;> omega), ht'.size, ⟨Nat.le_trans hn.1 ht'.size, hB⟩, F', H', hd', ht.trans ht', fun k hk => ?_⟩
  rcases ht'.foot k hk with e | e
  · exact hf k e
  · exact .inr (by have := hn.1; omega)
/-- No act comes any more. -/
theorem Lp.stop (h : Lp R B w F0 H0 p S k n1 W) (pv : Value) (hm : k = R.N) :
    Calls Tryz.prog 65 #[pv, R.v] W fun e W2 => e = .returned (.tuple #[av ⟨0, 0, 0, 0, 0⟩, .int .u64 0, .bool false]) ∧ KeepsRec W W2 ∧ Below W.heap.size W W2 ∧ Lp R B w F0 H0 p S k n1 W2 := by
  obtain ⟨H, hr⟩ := h.ro
  refine (goon_end R pv hr hm).mono ?_
  rintro e W2 ⟨rfl, hb⟩
  exact ⟨rfl, KeepsRec.below hb, hb, h.below hb⟩
end
end Go.Proofs.YtknefjigdlbacaaGreatDoor
set_option linter.unusedSimpArgs false
set_option linter.unusedVariables false
namespace Go.Proofs.YtknefjigdlbacaaGreatDoor
open Go.RowKit Go.Shelf Go.Maps
open Mm (Mem Blk)
open Ac (A)
attribute [local go_sem] Oper.semAt_some
/-- What Alone comes to: d acts were done. -/
def Alones (R : Rt) (B : Nat) (w : World) (F0 H0 : Nat → Prop) (p : Nat) (Sm : Nat → Mem) (d : Nat) (e : Ending) (w' : World) : Prop :=
  e = .returned (.tuple #[.int .i64 (d : Int), .bool (decide (R.N ≤ d))]) ∧ ∃ F H, Du R B w' p (Sm d) d F H ∧ Tn (Or2 F0 H0) (Or2 F H) w w'
/-- The boxes of Alone. -/
def Bx4 (n0 : Nat) (most : Int) (k p : Nat) (rr : Value) (W : World) : Prop := Boxed W n0 3 (.int .i64 most) ∧ Boxed W (n0 + 1) 3 (.int .i64 (k : Int)) ∧ Boxed W (n0 + 1 + 1) 52 (.pointer (some ⟨p, 0, none⟩)) ∧ Boxed W (n0 + 1 + 1 + 1) 63 rr
theorem Bx4.keep {n0 : Nat} {most : Int} {k p : Nat} {rr : Value} {W W' : World} (h : Bx4 n0 most k p rr W) (hk : ∀ j, n0 ≤ j → j < n0 + 4 → W'.heap[j]? = W.heap[j]?) : Bx4 n0 most k p rr W' :=
  ⟨boxed_keep h.1 (hk _ (by omega) (by omega)), boxed_keep h.2.1 (hk _ (by omega) (by omega)), boxed_keep h.2.2.1 (hk _ (by omega) (by omega)), boxed_keep h.2.2.2 (hk _ (by omega) (by omega))⟩
theorem Bx4.alloc {n0 : Nat} {most : Int} {k p : Nat} {rr : Value} {W : World} (h : Bx4 n0 most k p rr W) (o : Obj) : Bx4 n0 most k p rr (W.alloc o) := ⟨h.1.alloc _, h.2.1.alloc _, h.2.2.1.alloc _, h.2.2.2.alloc _⟩
theorem Bx4.putRec {n0 : Nat} {most : Int} {k p : Nat} {rr : Value} {W w4 : World} (h : Bx4 n0 most k p rr W) {l : Nat} {o o' : Obj} (hl : w4.heap.size ≤ l) (hz : w4.heap.size = n0 + 4) (ho : W.heap[l]? = some o) : Bx4 n0 most k p rr (W.putObj l o') :=
  h.keep fun j _ _ => World.putObj_heap_other (by omega)
set_option maxRecDepth 100000 in
set_option maxHeartbeats 4000000 in
theorem alone_zero (R : Rt) {B : Nat} {w : World} {p : Nat} {Sm : Nat → Mem} {F0 H0 : Nat → Prop} (h : Du R B w p (Sm 0) 0 F0 H0) (hB : B ≤ w.heap.size) (most : Int) (hm : most ≤ 0) :
    Calls Tryz.prog 17 #[.pointer (some ⟨p, 0, none⟩), R.v, .int .i64 most] w (Alones R B w F0 H0 p Sm 0) := by
  have hd : decide (0 < most) = false := by simp; omega
  have KN : Hid (∀ w1, Below w.heap.size w w1 → ∃ x, Calls Tryz.prog 67 #[R.v] w1 (Gives (.tuple #[av x, .bool (decide (0 < R.N))]) w1)) := Lib.hid (fun w1 hb => next_any R (R.below h.ro hb) (Nat.zero_le _))
  have HD := Lib.hid h; clear h
  go_enter Tryz.func17, Tryz.ntmps17
  go_wp2_with fail
  obtain ⟨W, hW⟩ : ∃ W, W = (w.alloc (.cells #[.int .i64 most] 3)).alloc (.cells #[.int .i64 0] 3) := ⟨_, rfl⟩
  have hb : Below w.heap.size w W := by rw [hW]; exact ((Below.refl _ w).alloc (Nat.le_refl _) _).alloc (by simp) _
  have k1 : Boxed W (w.heap.size + 1) 3 (.int .i64 0) := by rw [hW]; have := Boxed.new (w.alloc (.cells #[.int .i64 most] 3)) 3 (.int .i64 0); rwa [World.size_alloc] at this
  rw [← hW]
  clear hW
  obtain ⟨x, K⟩ := KN.out W hb
  with_reducible refine K.mono ?_
  rintro e w1 ⟨rfl, hb1⟩
  have hbb := hb.trans (hb1.mono hb.size)
  have hbx : Below w1.heap.size w1 (boxed w1 x) := boxed_below _ _
  have hbz := hbb.trans (hbx.mono hbb.size)
  have c1 := (boxed_keep (boxed_keep k1 (hb1.block _ k1.lt)) (hbx.block _ (Nat.lt_of_lt_of_le k1.lt hb1.size))).cell
  have HB := Lib.hid hbz
  clear hb hb1 hbb hbx hbz k1 K KN
  go_wp2
  refine bodyPost_ret (v := .tuple #[.int .i64 0, .bool (decide (R.N ≤ 0))]) (by simp [results, Tryz.results17, go_sem]; cases R.N <;> simp) rfl ⟨rfl, F0, H0, ?_, Tn.of_below HB.out⟩
  exact HD.out.below HB.out
set_option maxRecDepth 100000 in
set_option maxHeartbeats 4000000 in
theorem alone_in (R : Rt) (n : Nat) (hn : 9 ≤ n) {B : Nat} {w : World} {p : Nat} {Sm : Nat → Mem} {F0 H0 : Nat → Prop} (h : Du R B w p (Sm 0) 0 F0 H0) (hB : B ≤ w.heap.size) (most : Int) (hm : 0 < most)
    (hN : R.N ≤ 1000) (hD : ∀ k, k < R.N → DoesIt (Sm k) (R.xs k) (R.vs k) (Sm (k + 1))) :
    CallsIn Fence.wide n Tryz.prog 17 #[.pointer (some ⟨p, 0, none⟩), R.v, .int .i64 most] w (Alones R B w F0 H0 p Sm (min most.toNat R.N)) := by
  have hd : decide (0 < most) = true := by simp; omega
  have g1 : 1 ≤ n := by omega
  have HD := Lib.hid h; clear h
  have HF := Lib.hid hD; clear hD
  have KS := Lib.hid (fun (n : Nat) (w1 : World) => steps_call n (.pointer (some ⟨p, 0, none⟩)) R.v rfl R.one w1)
  have hf1 : Fence.wide.fn 66 := trivial
  have hf2 : Fence.wide.fn 67 := trivial
  refine callsIn_of_wp_marks Tryz.func17 rfl trivial ?_ rfl
  simp only [Tryz.ntmps17, List.size_toArray, List.length_cons, List.length_nil, Nat.reduceAdd, Nat.reduceSub, Array.replicate_succ, Array.replicate_zero, List.push_toArray, List.append_toArray, List.nil_append, List.cons_append]
  gi_wp2_with (gi_at_call 66; refine (KS.out _ _).mono ?_; rintro e w1 ⟨rfl, rfl⟩)
  obtain ⟨w4, hw4⟩ : ∃ w4, w4 = ((((w.alloc (.cells #[.int .i64 most] 3)).alloc (.cells #[.int .i64 0] 3)).alloc (.cells #[.pointer (some ⟨p, 0, none⟩)] 52)).alloc (.cells #[R.v] 63)) := ⟨_, rfl⟩
  have hz4 : w4.heap.size = w.heap.size + 4 := by rw [hw4]; simp
  have hb4 : Below w.heap.size w w4 := by rw [hw4]; exact ((((Below.refl _ w).alloc (Nat.le_refl _) _).alloc (by simp) _).alloc (by simp; omega) _).alloc (by simp; omega) _
  have x0 : Boxed w4 w.heap.size 3 (.int .i64 most) := by rw [hw4]; exact (((Boxed.new w 3 (.int .i64 most)).alloc _).alloc _).alloc _
  have x1 : Boxed w4 (w.heap.size + 1) 3 (.int .i64 0) := by rw [hw4]; have := Boxed.new (w.alloc (.cells #[.int .i64 most] 3)) 3 (.int .i64 0); rw [World.size_alloc] at this; exact (this.alloc _).alloc _
  have x2 : Boxed w4 (w.heap.size + 1 + 1) 52 (.pointer (some ⟨p, 0, none⟩)) := by rw [hw4]; have := Boxed.new ((w.alloc (.cells #[.int .i64 most] 3)).alloc (.cells #[.int .i64 0] 3)) 52 (.pointer (some ⟨p, 0, none⟩)); rw [World.size_alloc, World.size_alloc] at this; exact this.alloc _
  have x3 : Boxed w4 (w.heap.size + 1 + 1 + 1) 63 (R.v) := by rw [hw4]; have := Boxed.new (((w.alloc (.cells #[.int .i64 most] 3)).alloc (.cells #[.int .i64 0] 3)).alloc (.cells #[.pointer (some ⟨p, 0, none⟩)] 52)) 63 (R.v); rw [World.size_alloc, World.size_alloc, World.size_alloc] at this; exact this
  rw [← hw4]
  clear hw4
  obtain ⟨n0, hn0⟩ : ∃ n0, n0 = w.heap.size := ⟨_, rfl⟩
  rw [← hn0] at x0 x1 x2 x3 hz4 ⊢
  have hnA : w.heap.size ≤ n0 := by omega
  have hnB : n0 ≤ w.heap.size := by omega
  clear hn0
  have L0 : Lp R B w F0 H0 p (Sm 0) 0 (n0 + 4) w4 := Lp.start HD.out hb4 (by omega) hB
  have hfoot : ∀ k, Or2 F0 H0 k → B ≤ k := fun k hk => (HD.out.foot hk).1
  refine range_steps (by omega) (n0 + 1 + 1) (n0 + 1 + 1 + 1) (.pointer (some ⟨p, 0, none⟩)) R.v rfl rfl R.N R.xs R.vs
    (fun k W => k ≤ R.N ∧ (k : Int) < most ∧ Bx4 n0 most k p R.v W ∧ Lp R B w F0 H0 p (Sm k) k (n0 + 4) W)
    (fun k W => k < R.N ∧ (k : Int) < most ∧ Bx4 n0 most k p R.v W ∧ Lp R B w F0 H0 p (Sm (k + 1)) (k + 1) (n0 + 4) W)
    (fun k a1 W => a1 = { tmps := #[.pointer (some ⟨p, 0, none⟩), R.v, .int .i64 most, undef, undef, .pointer (some ⟨n0, 0, none⟩), .int .i64 0, .bool false, .pointer (some ⟨n0 + 1, 0, none⟩), undef, undef, .int .i64 most, .bool true, .pointer (some ⟨p, 0, none⟩), R.v, .func (.func 120) #[] #[.pointer (some ⟨n0 + 1 + 1, 0, none⟩), .pointer (some ⟨n0 + 1 + 1 + 1, 0, none⟩)], av (R.xs k), .int .u64 (R.vs k), undef, undef, undef, undef, undef, undef, undef, undef, undef, undef, undef, undef, undef], defers := [] } ∧ (k < R.N ∧ (k : Int) < most ∧ Bx4 n0 most k p R.v W ∧ Lp R B w F0 H0 p (Sm (k + 1)) (k + 1) (n0 + 4) W))
    (fun W => (R.N : Int) < most ∧ Bx4 n0 most R.N p R.v W ∧ Lp R B w F0 H0 p (Sm R.N) R.N (n0 + 4) W)
    (fun cd k W => cd = .exit 0 ∧ k ≤ R.N ∧ (k : Int) = most ∧ Bx4 n0 most k p R.v W ∧ Lp R B w F0 H0 p (Sm k) k (n0 + 4) W)
    (fun W => R.N - R.at' W) ?bI ?bI2 ?bd ?bx ?h0 ?hmu ?hG ?hassign ?hbody ?hdone ?hstop
  case bI => exact fun s W l o o' ⟨h1, h2, h3, h4⟩ hl ho hr hr' => ⟨h1, h2, h3.putRec hl hz4 ho, h4.putRec (by omega) ho hr⟩
  case bI2 => exact fun s W l o o' ⟨h0, h1, h2, h3, h4⟩ hl ho hr hr' => ⟨h0, h1, h2, h3.putRec hl hz4 ho, h4.putRec (by omega) ho hr⟩
  case bd => exact fun s W l o o' ⟨h2, h3, h4⟩ hl ho hr hr' => ⟨h2, h3.putRec hl hz4 ho, h4.putRec (by omega) ho hr⟩
  case bx => exact fun cd s W l o o' ⟨h0, h1, h2, h3, h4⟩ hl ho hr hr' => ⟨h0, h1, h2, h3.putRec hl hz4 ho, h4.putRec (by omega) ho hr⟩
  case h0 => exact fun r => ⟨Nat.zero_le _, hm, ⟨(x0.alloc _).alloc _, (x1.alloc _).alloc _, (x2.alloc _).alloc _, (x3.alloc _).alloc _⟩, (L0.alloc _).alloc _⟩
  case hmu =>
    rintro k W ⟨h1, h2, h3, h4⟩
    obtain ⟨H, hr⟩ := h4.ro
    refine ⟨h1, ?_⟩
    show R.N - R.at' W = R.N - k
    rw [R.at_eq hr]
  case hG =>
    rintro k W ⟨h1, h2, h3, h4⟩
    refine ⟨h3.2.2.1.cell, h3.2.2.2.cell, ?_⟩
    by_cases hlt : k < R.N
    · refine .inl ⟨hlt, (h4.step hfoot hB hlt (HF.out k hlt)).mono ?_⟩
      rintro e W2 ⟨rfl, hr, hbx, hsz, hl⟩
      refine ⟨rfl, hr, hlt, h2, (h3.keep fun j g1 g2 => hbx j (by omega) g2).alloc _, ?_⟩
      exact hl.alloc _
    · have hkN : k = R.N := by omega
      refine .inr ⟨hkN, (h4.stop _ hkN).mono ?_⟩
      rintro e W2 ⟨rfl, hr, hb, hl⟩
      rw [hkN] at h2 h3 hl
      exact ⟨rfl, hr, h2, (h3.keep fun j g1 g2 => hb.block j (by have := h4.size; omega)).alloc _, hl.alloc _⟩
  case hassign =>
    intro l k W K hi hK
    gi_wp2
    refine hK _ _ (KeepsRec.refl _) ⟨?_, hi⟩
    simp
  case hbody =>
    rintro l k a1 W ⟨rfl, hlt', hlm, hbx, hlp⟩ hlt
    obtain ⟨b0, b1, b2, b3⟩ := hbx
    have c0 := b0.cell
    have c1 := b1.cell
    have f1 := b1.frozen
    have ek : wrap64 ((k : Int) + 1) = (k : Int) + 1 := by unfold wrap64; omega
    have hlpk := (hlp.set (b := n0 + 1) (by omega) (by omega) 0 (.int .i64 ((k : Int) + 1)))
    have hbk : Bx4 n0 most (k + 1) p R.v (W.setCell ⟨n0 + 1, 0, none⟩ (.int .i64 ((k : Int) + 1))) := ⟨b0.other (by omega) _, by have := b1.set (.int .i64 ((k : Int) + 1)); simpa using this, b2.other (by omega) _, b3.other (by omega) _⟩
    have HL := Lib.hid hlpk; clear hlpk hlp
    have HBK := Lib.hid hbk; clear hbk
    have HR : Hid (KeepsRec W (W.setCell ⟨n0 + 1, 0, none⟩ (.int .i64 ((k : Int) + 1)))) := Lib.hid (KeepsRec.set b1)
    clear b0 b1 b2 b3
    by_cases he : (k : Int) + 1 = most
    · have hl2 := HL.out
      have hb2 := HBK.out
      have hr2 := HR.out
      rw [he] at hl2 hb2 hr2
      have HL := Lib.hid hl2
      have HBK := Lib.hid hb2
      have HR := Lib.hid hr2
      clear hl2 hb2 hr2
      gi_wp2
      exact ⟨HR.out, rfl, hlt', by simpa using he, HBK.out, HL.out⟩
    · gi_wp2
      exact ⟨HR.out, hlt', by have : (k : Int) + 1 ≠ most := he; simp only [Int.natCast_add, Int.natCast_one]; omega, HBK.out, HL.out⟩
  case hdone =>
    rintro D W hD ⟨hlm, hbx, hlp⟩ hK
    obtain ⟨H, hro⟩ := hlp.ro
    obtain ⟨x, hnx⟩ := next_any R hro (Nat.le_refl _)
    rw [decide_eq_false (by omega : ¬ R.N < R.N)] at hnx
    have KN := Lib.hid hnx
    have hc := hbx.2.1.cell
    have HBX := Lib.hid hbx
    have HLP := Lib.hid hlp
    have HK := Lib.hid hK
    clear hbx hlp hK hnx hro
    gi_wp2_with (gi_at_call 67; refine (callsIn_wide.2 KN.out).mono ?_; rintro e W2 ⟨rfl, hb⟩; have hc2 := ((boxed_keep HBX.out.2.1 (hb.block _ HBX.out.2.1.lt)).alloc (.cells #[.int .i64 x.k, .int .u64 x.b, .int .i64 x.c, .int .u64 x.o, .int .u64 x.n] 35)).cell)
    have hK2 := KeepsRec.alloc W2 (.cells #[.int .i64 x.k, .int .u64 x.b, .int .i64 x.c, .int .u64 x.o, .int .u64 x.n] 35) _ _ (KeepsRec.below hb _ _ HK.out rfl) rfl
    obtain ⟨Fz, Hz, hdz, htz⟩ := (((HLP.out.below hb).alloc (.cells #[.int .i64 x.k, .int .u64 x.b, .int .i64 x.c, .int .u64 x.o, .int .u64 x.n] 35)).putRec (o' := .deferred none) (by omega) hK2 rfl).out
    refine ⟨by simp, .inl ⟨_, _, rfl, run_takeDeferred hK2, ?_⟩⟩
    have hmin : min most.toNat R.N = R.N := by omega
    rw [hmin]
    exact ⟨_, results_tmp2 rfl _ _ _, by simp, Fz, Hz, hdz, htz⟩
  case hstop =>
    rintro D cd k W hD ⟨rfl, hkN, hkm, hbx, hlp⟩ hK
    obtain ⟨H, hro⟩ := hlp.ro
    obtain ⟨x, hnx⟩ := next_any R hro hkN
    have hmin : min most.toNat R.N = k := by omega
    obtain ⟨bt, hbt⟩ : ∃ bt, bt = decide (k < R.N) := ⟨_, rfl⟩
    rw [← hbt] at hnx
    have HBT := Lib.hid hbt
    have KN := Lib.hid hnx
    have hc := hbx.2.1.cell
    have HBX := Lib.hid hbx
    have HLP := Lib.hid hlp
    have HK := Lib.hid hK
    have HMIN := Lib.hid hmin
    clear hbx hlp hK hnx hro hbt hmin hkm
    gi_wp2_with (gi_at_call 67; refine (callsIn_wide.2 KN.out).mono ?_; rintro e W2 ⟨rfl, hb⟩; have hc2 := ((boxed_keep HBX.out.2.1 (hb.block _ HBX.out.2.1.lt)).alloc (.cells #[.int .i64 x.k, .int .u64 x.b, .int .i64 x.c, .int .u64 x.o, .int .u64 x.n] 35)).cell)
    have hK2 := KeepsRec.alloc W2 (.cells #[.int .i64 x.k, .int .u64 x.b, .int .i64 x.c, .int .u64 x.o, .int .u64 x.n] 35) _ _ (KeepsRec.below hb _ _ HK.out rfl) rfl
    obtain ⟨Fz, Hz, hdz, htz⟩ := (((HLP.out.below hb).alloc (.cells #[.int .i64 x.k, .int .u64 x.b, .int .i64 x.c, .int .u64 x.o, .int .u64 x.n] 35)).putRec (o' := .deferred none) (by omega) hK2 rfl).out
    refine ⟨by simp, .inl ⟨_, _, rfl, run_takeDeferred hK2, ?_⟩⟩
    rw [HMIN.out]
    have hbb : (!bt) = decide (R.N ≤ k) := by rw [HBT.out]; by_cases h : k < R.N <;> simp [h] <;> omega
    exact ⟨_, results_tmp2 rfl _ _ _, by rw [← hbb]; rfl, Fz, Hz, hdz, htz⟩
/-- ████ Alone. ████ -/
theorem alone_any (R : Rt) {B : Nat} {w : World} {p : Nat} {Sm : Nat → Mem} {F0 H0 : Nat → Prop} (h : Du R B w p (Sm 0) 0 F0 H0) (hB : B ≤ w.heap.size) (most : Int)
    (hN : R.N ≤ 1000) (hD : ∀ k, k < R.N → DoesIt (Sm k) (R.xs k) (R.vs k) (Sm (k + 1))) :
    Calls Tryz.prog 17 #[.pointer (some ⟨p, 0, none⟩), R.v, .int .i64 most] w (Alones R B w F0 H0 p Sm (min most.toNat R.N)) := by
  by_cases hm : 0 < most
  · exact (callsIn_wide (n := 9)).1 (alone_in R 9 (by omega) h hB most hm hN hD)
  · rw [show min most.toNat R.N = 0 by omega]
    exact alone_zero R h hB most (by omega)
end Go.Proofs.YtknefjigdlbacaaGreatDoor
set_option linter.unusedSimpArgs false
set_option linter.unusedVariables false
namespace Go.Proofs.YtknefjigdlbacaaGreatDoor
open Go.RowKit Go.Maps
open Mm (Mem Blk)
open Ac (A)
/-- A maker's acts, counted by what its block holds. -/
def kat (q N : Nat) (w : World) : Nat := match w.cell? ⟨q, 5, none⟩, w.cell? ⟨q, 7, none⟩ with
  | some (.int _ 5), _ => 0
  | some (.int _ 2), some (.int _ i) => i.toNat + 1
  | _, _ => N
def KSt (q : Nat) (l : List Nat) (b : Nat) (B : Nat) (w : World) (k : Nat) (H : Nat → Prop) : Prop := k ≤ cnt l.length b ∧ ∃ g c, Mst B w q l g c k b ∧ H = fun j => j = q ∨ j = g
theorem more_cnt {n b k : Nat} : decide (k < cnt n b) = Kr.more n k b := by
  cases k with
  | zero => rw [Kr.more_zero]; exact decide_eq_true (by unfold cnt; split <;> omega)
  | succ j =>
    rw [Bool.eq_iff_iff, Kr.more_succ, decide_eq_true_iff]
    unfold cnt
    split <;> omega
theorem kat_eq {q : Nat} {l : List Nat} {b B k : Nat} {w : World} {H : Nat → Prop} (h : KSt q l b B w k H) : kat q (cnt l.length b) w = k := by
  obtain ⟨hk, g, c, h, -⟩ := h
  unfold kat
  rw [h.own.c5, h.own.c7]
  cases hm : Kr.more l.length k b with
  | false =>
    rw [Kr.act_none hm]
    have : ¬ k < cnt l.length b := by rw [← decide_eq_false_iff_not, more_cnt]; exact hm
    show cnt l.length b = k
    omega
  | true =>
    cases k with
    | zero => rw [Kr.act_zero]; rfl
    | succ j =>
      obtain ⟨h1, h2⟩ := Kr.more_succ.1 hm
      rw [Kr.act_store h1 h2]
      show ((j : Int)).toNat + 1 = j + 1
      omega
/-- A maker, as a routine on an arena that answers b to its first act. -/
def krt (q : Nat) (l : List Nat) (b : Nat) (h1 : 1 ≤ l.length) (h2 : l.length ≤ 1000000) : Rt where
  v := rv q
  N := cnt l.length b
  xs := fun k => Kr.act l k b
  vs := fun k => ((if k = 0 then b else 0 : Nat) : Int)
  St := KSt q l b
  at' := kat q (cnt l.length b)
  one := rfl
  foot := by
    rintro B w k H j ⟨hk, g, c, h, rfl⟩ (rfl | rfl)
    · exact ⟨h.qB, h.own.lt⟩
    · exact ⟨h.gB, h.ltg⟩
  keep := by
    rintro B w w' k H ⟨hk, g, c, h, rfl⟩ hj _
    refine ⟨hk, g, c, ⟨h.qB, h.gB, h.ne, h.own.keep (hj q (.inl rfl)), ?_, fun i hi => by rw [World.cell?, hj g (.inr rfl)]; exact h.wds i hi⟩, rfl⟩
    have e := hj g (.inr rfl)
    rw [Array.getElem?_eq_getElem h.ltg] at e
    exact (Array.getElem?_eq_some_iff.1 e).1
  at_eq := kat_eq
  norec := by
    rintro B w k H j o ⟨hk, g, c, h, rfl⟩ (rfl | rfl) ho
    · have := h.own.symm.trans ho
      injection this with this
      subst this; rfl
    · have hc := h.wds 0 (by omega)
      unfold World.cell? at hc
      rw [ho] at hc
      cases o <;> first | rfl | (simp at hc)
  next := by
    rintro B w k H ⟨hk, g, c, h, rfl⟩ hN
    rw [more_cnt]
    have e : (if k < cnt l.length b then Kr.act l k b else ⟨0, 0, 0, 0, 0⟩) = Kr.act l k b := by
      by_cases hc : k < cnt l.length b
      · rw [if_pos hc]
      · rw [if_neg hc, Kr.act_none]; rw [← more_cnt]; exact decide_eq_false hc
    rw [e]
    exact next_some q _ _ w fun w1 hb => kact_any (h.below hb)
  take := by
    rintro B w k H ⟨hk, g, c, h, rfl⟩ hB hN
    refine take_some q _ w _ ((ktake_any h h1 h2 _).mono ?_)
    rintro e w' ⟨rfl, hm, hc⟩
    refine ⟨rfl, _, ⟨hN, g, c, ?_, rfl⟩, hc.os, hc.tape, hc.output, hc.size, fun j hj hF => hc.block j hj fun e => hF (.inl e), fun j hj => .inl hj⟩
    have : Kr.blk k b (if k = 0 then b else 0) = b := by unfold Kr.blk; split <;> rfl
    rwa [this] at hm
/-- The block's cells behind k stores. -/
def row (l : List Nat) : Nat → List Int
  | 0 => List.replicate l.length 0
  | k + 1 => (row l k).set k ((l.getD k 0 : Nat) : Int)
theorem row_len (l : List Nat) : ∀ k, (row l k).length = l.length
  | 0 => by simp [row]
  | k + 1 => by simp [row, row_len l k]
theorem row_at (l : List Nat) : ∀ k i, i < k → i < l.length → (row l k)[i]? = some ((l.getD i 0 : Nat) : Int)
  | 0, i, h, _ => by omega
  | k + 1, i, h, hl => by
    show ((row l k).set k _)[i]? = _
    by_cases e : i = k
    · subst e; rw [List.getElem?_set_self (by rw [row_len]; exact hl)]
    · rw [List.getElem?_set_ne (by omega)]; exact row_at l k i (by omega) hl
theorem row_up (l : List Nat) : row l l.length = Kr.up l := by
  refine List.ext_getElem? fun i => ?_
  by_cases h : i < l.length
  · rw [row_at l _ i h h, List.getElem?_eq_getElem (by rw [Kr.up_len]; exact h), Kr.up_get h]
  · rw [List.getElem?_eq_none (by rw [row_len]; omega), List.getElem?_eq_none (by rw [Kr.up_len]; omega)]
/-- The arena's memory behind k acts. -/
def Sm (r : Nat) (l : List Nat) : Nat → Mem
  | 0 => ⟨r, 0, 0, []⟩
  | k + 1 => if l.length ≤ r then ⟨r, 1, 0, [(1, row l k)]⟩ else ⟨r, 0, 0, []⟩
/-- The block that is answered. -/
def bb (r n : Nat) : Nat := if n ≤ r then 1 else 0
theorem sm_does {r : Nat} {l : List Nat} (hr : 1 ≤ r) (hr2 : r ≤ 65536) (h1 : 1 ≤ l.length) (h2 : l.length ≤ 1000) : ∀ k, k < cnt l.length (bb r l.length) → DoesIt (Sm r l k) (Kr.act l k (bb r l.length)) (((if k = 0 then bb r l.length else 0 : Nat) : Nat) : Int) (Sm r l (k + 1))
  | 0, _ => by
    rw [Kr.act_zero, if_pos rfl]
    unfold bb
    by_cases h : l.length ≤ r
    · rw [if_pos h]
      have := does_alloc (S := ⟨r, 0, 0, []⟩) ⟨hr, hr2, trivial, Nat.zero_le _, fun b hb => by simp at hb⟩ l.length h1 (by show _ ≤ r - 0; omega) (by simp)
      show DoesIt ⟨r, 0, 0, []⟩ _ _ (if l.length ≤ r then _ else _)
      rw [if_pos h]
      exact this
    · rw [if_neg h]
      show DoesIt ⟨r, 0, 0, []⟩ _ _ (if l.length ≤ r then _ else _)
      rw [if_neg h]
      exact does_none (S := ⟨r, 0, 0, []⟩) l.length h1 (by omega) (by show r - 0 < _; omega) (Nat.zero_le _)
  | k + 1, hk => by
    have hm := (Kr.more_succ (n := l.length) (j := k) (b := bb r l.length)).1 (by rw [← more_cnt]; exact decide_eq_true hk)
    rw [Kr.act_store hm.1 hm.2, if_neg (by omega)]
    have h : l.length ≤ r := by
      by_cases h : l.length ≤ r
      · exact h
      · exact absurd (by simp [bb, h]) hm.1
    have e1 : bb r l.length = 1 := by simp [bb, h]
    rw [e1]
    show DoesIt (if l.length ≤ r then _ else _) _ _ (if l.length ≤ r then _ else _)
    rw [if_pos h, if_pos h]
    have := does_store (S := ⟨r, 1, 0, [(1, row l k)]⟩) (ws := row l k) 1 k (l.getD k 0) (by omega) (by simp [Mm.get]) (by rw [row_len]; exact hm.2) (by omega)
    have e2 : (⟨r, 1, 0, [(1, row l k)]⟩ : Mem).put 1 k ((l.getD k 0 : Nat) : Int) = ⟨r, 1, 0, [(1, row l (k + 1))]⟩ := by simp [Mem.put, Mm.put, row]
    rw [e2] at this
    exact this
/-- The memory in the end. -/
def Fin (r : Nat) (l : List Nat) : Mem := if l.length ≤ r then ⟨r, 1, 0, [(1, Kr.up l)]⟩ else ⟨r, 0, 0, []⟩
theorem sm_fin (r : Nat) (l : List Nat) (h1 : 1 ≤ l.length) : Sm r l (cnt l.length (bb r l.length)) = Fin r l := by
  unfold Fin bb cnt
  by_cases h : l.length ≤ r
  · rw [if_pos h, if_pos h, if_neg (by omega)]
    show (if l.length ≤ r then _ else _) = _
    rw [if_pos h, row_up]
  · rw [if_neg h, if_neg h, if_pos rfl]
    show (if l.length ≤ r then _ else _) = _
    rw [if_neg h]
/-- What Alone comes to. -/
def Ran (B p q : Nat) (r : Nat) (l : List Nat) (w : World) (e : Ending) (w' : World) : Prop := e = .returned (.tuple #[.int .i64 (cnt l.length (bb r l.length) : Int), .bool true]) ∧ Below B w w' ∧ (∃ F, Ax B w' p (Fin r l) F) ∧ ∃ g c, Mst B w' q l g c (cnt l.length (bb r l.length)) (bb r l.length)
theorem kalone {B : Nat} {w : World} {p q g c r : Nat} {l : List Nat} {F : Nat → Prop} (ha : Ax B w p ⟨r, 0, 0, []⟩ F) (hm : Mst B w q l g c 0 0) (hap : ¬ F q ∧ ¬ F g) (hlow : 0 < B) (hB : B ≤ w.heap.size) (hr : 1 ≤ r) (hr2 : r ≤ 65536) (h1 : 1 ≤ l.length) (h2 : l.length ≤ 6) (most : Int) (hmost : 7 ≤ most) :
    Calls Tryz.prog 17 #[.pointer (some ⟨p, 0, none⟩), rv q, .int .i64 most] w (Ran B p q r l w) := by
  have hN : cnt l.length (bb r l.length) ≤ 7 := by unfold cnt; split <;> omega
  have hst : KSt q l (bb r l.length) B w 0 (fun j => j = q ∨ j = g) := ⟨Nat.zero_le _, g, c, ⟨hm.qB, hm.gB, hm.ne, by have := hm.own; rw [Kr.act_zero] at this ⊢; exact this, hm.ltg, hm.wds⟩, rfl⟩
  have hdu : Du (krt q l (bb r l.length) h1 (by omega)) B w p (Sm r l 0) 0 F (fun j => j = q ∨ j = g) := ⟨ha, hst, by rintro k (rfl | rfl); exact hap.1; exact hap.2, hlow⟩
  refine (alone_any (krt q l (bb r l.length) h1 (by omega)) (Sm := Sm r l) hdu hB most (by show cnt _ _ ≤ 1000; omega) (sm_does hr hr2 h1 (by omega))).mono ?_
  rintro e w' ⟨he, F', H', hd, ht⟩
  have hmin : min most.toNat (krt q l (bb r l.length) h1 (by omega)).N = cnt l.length (bb r l.length) := by show min most.toNat (cnt l.length (bb r l.length)) = _; omega
  rw [hmin] at he hd
  obtain ⟨hk, g', c', hm', -⟩ := hd.ro
  have har := hd.ar
  rw [sm_fin r l h1] at har
  refine ⟨?_, ht.below (fun k hk => (hdu.foot hk).1) hB, ⟨F', har⟩, g', c', hm'⟩
  rw [he]
  show Ending.returned (.tuple #[_, .bool (decide (cnt _ _ ≤ cnt _ _))]) = _
  rw [decide_eq_true (Nat.le_refl _)]
end Go.Proofs.YtknefjigdlbacaaGreatDoor
