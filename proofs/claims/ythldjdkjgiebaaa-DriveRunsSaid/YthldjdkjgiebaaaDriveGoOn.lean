/-
  The walk of goOn: the next act is done, and taken. By an AI agent.
-/
import Derived.Test.YthldjdkjgiebaaaDriveNext
import Derived.Test.YthldjdkjgiebaaaDriveBoth
import Derived.Test.YthldjdkjgiebaaaDriveWords
import Derived.Deep.CutBlock
set_option linter.unusedSimpArgs false
set_option linter.unusedVariables false
namespace Go.Proofs.Ythldjdkjgiebaaa
open Go.RowKit Go.Maps
open Mm (Mem Blk)
open Ac (A)
def Or2 (F H : Nat → Prop) (k : Nat) : Prop := F k ∨ H k
/-- A routine, its blocks H. -/
def Ro (B : Nat) (w : World) (q : Nat) (a : Option Addr) (N c : Nat) (gs : List Int) (H : Nat → Prop) : Prop := ∃ au cu, Rw B w q a N c gs au cu ∧ H = Hp q au
/-- An arena and a routine, apart from one another. -/
structure Du (B : Nat) (w : World) (p : Nat) (S : Mem) (q : Nat) (a : Option Addr) (N c : Nat) (gs : List Int) (F H : Nat → Prop) : Prop where
  ar : Ax B w p S F
  ro : Ro B w q a N c gs H
  apart : ∀ k, H k → ¬ F k
section
variable {B : Nat} {w w1 w' : World} {p q : Nat} {S S' : Mem} {a : Option Addr} {N c : Nat} {gs : List Int} {F F' H H' G : Nat → Prop}
theorem Ro.foot (h : Ro B w q a N c gs H) {k : Nat} (hk : H k) : B ≤ k ∧ k < w.heap.size := by
  obtain ⟨au, cu, h, rfl⟩ := h
  exact h.foot hk
theorem Ro.keep (h : Ro B w q a N c gs H) (hk : ∀ k, H k → w'.heap[k]? = w.heap[k]?) : Ro B w' q a N c gs H := by
  obtain ⟨au, cu, h, rfl⟩ := h
  exact ⟨au, cu, h.keep hk, rfl⟩
theorem Ro.below (h : Ro B w q a N c gs H) (hb : Below w.heap.size w w') : Ro B w' q a N c gs H := h.keep fun k hk => hb.block k (h.foot hk).2
theorem Ro.c0 (h : Ro B w q a N c gs H) : w.cell? ⟨q, 0, none⟩ = some (.slice a N c) := by
  obtain ⟨au, cu, h, rfl⟩ := h
  exact h.c0
theorem Ro.c1 (h : Ro B w q a N c gs H) : ∃ au cu, w.cell? ⟨q, 1, none⟩ = some (.slice au gs.length cu) ∧ w.ownsRow B 35 1 (.slice au gs.length cu) gs.length (ws gs) := by
  obtain ⟨au, cu, h, rfl⟩ := h
  exact ⟨au, cu, h.c1, h.row⟩
theorem Ro.lt (h : Ro B w q a N c gs H) : B ≤ q ∧ q < w.heap.size := by
  obtain ⟨au, cu, h, rfl⟩ := h
  exact ⟨h.qB, h.lt⟩
/-- Another routine, apart from what changes. -/
theorem Tn.ro (h : Tn F F' w w') (ho : Ro B w q a N c gs G) (ha : ∀ k, G k → ¬ F k) : Ro B w' q a N c gs G ∧ ∀ k, G k → ¬ F' k :=
  ⟨ho.keep fun k hk => h.block k (ho.foot hk).2 (ha k hk), fun k hk e => (h.foot k e).elim (ha k hk) (fun e2 => by have := (ho.foot hk).2; omega)⟩
theorem Tn.left (h : Tn F F' w w') : Tn (Or2 F H) (Or2 F' H) w w' := ⟨h.os, h.tape, h.output, h.size, fun k hk hF => h.block k hk (fun e => hF (.inl e)), fun k hk => by
  rcases hk with hk | hk
  · exact (h.foot k hk).imp .inl id
  · exact .inl (.inr hk)⟩
theorem Tn.right (h : Tn H H' w w') : Tn (Or2 F H) (Or2 F H') w w' := ⟨h.os, h.tape, h.output, h.size, fun k hk hF => h.block k hk (fun e => hF (.inr e)), fun k hk => by
  rcases hk with hk | hk
  · exact .inl (.inl hk)
  · exact (h.foot k hk).imp .inr id⟩
theorem Tn.then_below (h : Tn F F' w w1) (hb : Below w.heap.size w1 w') : Tn F F' w w' := ⟨hb.os.trans h.os, hb.tape.trans h.tape, hb.output.trans h.output, Nat.le_trans h.size hb.size, fun k hk hF => (hb.block k hk).trans (h.block k hk hF), h.foot⟩
theorem Du.below (h : Du B w p S q a N c gs F H) (hb : Below w.heap.size w w') : Du B w' p S q a N c gs F H := ⟨h.ar.below hb (Nat.le_refl _), h.ro.below hb, h.apart⟩
theorem Du.foot (h : Du B w p S q a N c gs F H) {k : Nat} (hk : Or2 F H k) : B ≤ k ∧ k < w.heap.size := hk.elim (fun e => h.ar.foot e) (fun e => h.ro.foot e)
end
theorem av_boxed (w : World) (x : A) : (boxed w x).heap[w.heap.size]? = some (.cells #[.int .i64 x.k, .int .u64 x.b, .int .i64 x.c, .int .u64 x.o, .int .u64 x.n] 42 (0, 0)) := World.alloc_heap_new w _
set_option maxRecDepth 100000 in
set_option maxHeartbeats 8000000 in
theorem goon_more {B : Nat} {w : World} {p q : Nat} {S S' : Mem} {a : Option Addr} {N c : Nat} {gs : List Int} {F H : Nat → Prop} (h : Du B w p S q a N c gs F H) (hB : B ≤ w.heap.size) (hm : gs.length < N) (hl : gs.length ≤ 1000000)
    (x : A) (v : Int) (hx : ∀ w1, Below B w w1 → ActAt a w1 gs.length x) (hD : DoesIt S x v S') :
    Calls Try.prog 24 #[.pointer (some ⟨p, 0, none⟩), rv q] w fun e w' => e = .returned (.tuple #[av x, .int .u64 v, .bool true]) ∧ ∃ F' H', Du B w' p S' q a N c (gs ++ [v]) F' H' ∧ Tn (Or2 F H) (Or2 F' H') w w' := by
  have KN : Hid (∀ w1, Below w.heap.size w w1 → Calls Try.prog 20 #[rv q] w1 (Gives (.tuple #[av x, .bool true]) w1)) := Lib.hid (fun w1 hb => next_some q x true w1 fun w2 hb2 => by
    have hbb := hb.trans (hb2.mono hb.size)
    obtain ⟨au, cu, e1, -⟩ := (h.ro.below hbb).c1
    exact ract_more q a au N c gs.length cu x w2 (h.ro.below hbb).c0 e1 hm (hx w2 (hbb.mono hB)))
  obtain ⟨xk, xb, xc, xo, xn⟩ := x
  have HH := Lib.hid h; clear h
  have HD := Lib.hid hD; clear hD
  clear hx
  obtain ⟨n, hn⟩ : ∃ n, n = w.heap.size := ⟨_, rfl⟩
  have Hn := Lib.hid hn
  go_enter Try.func24, Try.ntmps24
  go_wp2_with fail
  obtain ⟨W, hW⟩ : ∃ W, W = w.alloc (.cells #[.int .i64 0, .int .u64 0, .int .i64 0, .int .u64 0, .int .u64 0] 42) := ⟨_, rfl⟩
  have hb : Below w.heap.size w W := by rw [hW]; exact (Below.refl _ w).alloc (Nat.le_refl _) _
  have k0 : W.heap[n]? = some (.cells #[.int .i64 0, .int .u64 0, .int .i64 0, .int .u64 0, .int .u64 0] 42 (0, 0)) := by rw [hW, hn]; exact World.alloc_heap_new w _
  rw [← hW, ← hn]
  clear hW hn
  with_reducible refine (KN.out W hb).mono ?_
  rintro e w1 ⟨rfl, hb1⟩
  have j0 := (hb1.block _ (Array.getElem?_eq_some_iff.1 k0).1).trans k0
  have hb1' := hb.trans (hb1.mono hb.size)
  have hltn := Nat.lt_of_lt_of_le (Array.getElem?_eq_some_iff.1 k0).1 hb1.size
  clear k0 hb hb1
  have B1 := Lib.hid hb1'; clear hb1'
  have J0 := Lib.hid j0; clear j0
  go_wp2_with fail
  obtain ⟨m1, hm1⟩ : ∃ m1, m1 = w1.heap.size := ⟨_, rfl⟩
  obtain ⟨w2, hw2⟩ : ∃ w2, w2 = w1.alloc (.cells #[.int .i64 xk, .int .u64 (xb : Int), .int .i64 xc, .int .u64 (xo : Int), .int .u64 (xn : Int)] 42) := ⟨_, rfl⟩
  have hb2 : Below w1.heap.size w1 w2 := by rw [hw2]; exact (Below.refl _ w1).alloc (Nat.le_refl _) _
  have i1 : w2.heap[m1]? = some (.cells #[.int .i64 xk, .int .u64 (xb : Int), .int .i64 xc, .int .u64 (xo : Int), .int .u64 (xn : Int)] 42 (0, 0)) := by rw [hw2, hm1]; exact World.alloc_heap_new w1 _
  have i0 := (hb2.block n hltn).trans J0.out
  have hb3 := B1.out.trans (hb2.mono B1.out.size)
  rw [← hw2, ← hm1]
  have hnm : n ≠ m1 := by omega
  have hnw : w.heap.size ≤ n := by rw [Hn.out]; exact Nat.le_refl _
  have hmw : w.heap.size ≤ m1 := by rw [hm1]; exact B1.out.size
  have hw2n : n < w2.heap.size := (Array.getElem?_eq_some_iff.1 i0).1
  have hw2m : m1 < w2.heap.size := (Array.getElem?_eq_some_iff.1 i1).1
  have hd2 := HH.out.below hb3
  have KD := Lib.hid (HD.out B w2 p F hd2.ar (Nat.le_trans hB hb3.size))
  clear hm1 hw2 hb2 J0 B1 HD KN
  with_reducible refine KD.out.mono ?_
  rintro e w3 ⟨rfl, F', ha3, ht3⟩
  clear KD
  have nF : ∀ k, w.heap.size ≤ k → ¬ F k := fun k hk hF => by have := (HH.out.ar.foot hF).2; omega
  have nH : ∀ k, w.heap.size ≤ k → ¬ H k := fun k hk hF => by have := (HH.out.ro.foot hF).2; omega
  have i0 := (ht3.block n hw2n (nF n hnw)).trans i0
  have i1 := (ht3.block m1 hw2m (nF m1 hmw)).trans i1
  obtain ⟨hr3, hap3⟩ := ht3.ro hd2.ro hd2.apart
  have hF3 : ∀ k, F' k → F k ∨ w2.heap.size ≤ k := ht3.foot
  have hB3 : B ≤ w3.heap.size := Nat.le_trans hB (Nat.le_trans hb3.size ht3.size)
  have t03 : Tn (Or2 F H) (Or2 F' H) w w3 := (Tn.of_below hb3).trans ht3.left
  obtain ⟨au, cu, hrw3, hHH⟩ := hr3
  have KT := Lib.hid (take_some q v w3 _ (rtake_more hrw3 hB3 hm hl v))
  have T03 := Lib.hid t03
  have A3 := Lib.hid ha3
  have S3 := Lib.hid ht3.size
  have AP := Lib.hid hap3
  have F3 := Lib.hid hF3
  have I0 := Lib.hid i0
  have I1 := Lib.hid i1
  clear i0 i1 hap3 hF3 hB3 t03 ha3 ht3 hrw3 hd2 hb3
  subst hHH
  go_wp2_with fail
  with_reducible refine KT.out.mono ?_
  rintro e w4 ⟨rfl, au', cu', hr4, ht4⟩
  clear KT
  have hs3 := S3.out
  have i0 := (ht4.block n (by omega) (nH n hnw)).trans I0.out
  have i1 := (ht4.block m1 (by omega) (nH m1 hmw)).trans I1.out
  have t04 := T03.out.trans ht4.right
  obtain ⟨ha4, hap4⟩ := ht4.other A3.out (fun k hk hh => AP.out k hh hk)
  have nK : ¬ Or2 F' (Hp q au') n := fun e => by
    rcases e with e | e
    · rcases F3.out n e with e | e
      · exact nF n hnw e
      · omega
    · rcases ht4.foot n e with e | e
      · exact nH n hnw e
      · omega
  have D4 : Hid (Du B w4 p S' q a N c (gs ++ [v]) F' (Hp q au')) := Lib.hid ⟨ha4, ⟨au', cu', hr4, rfl⟩, fun k hk hf => hap4 k hf hk⟩
  have T4 := Lib.hid t04
  have NK := Lib.hid nK
  have c0 : w4.cell? ⟨m1, 0, none⟩ = some (.int .i64 xk) := by simp [World.cell?, i1]
  have c1 : w4.cell? ⟨m1, 1, none⟩ = some (.int .u64 (xb : Int)) := by simp [World.cell?, i1]
  have c2 : w4.cell? ⟨m1, 2, none⟩ = some (.int .i64 xc) := by simp [World.cell?, i1]
  have c3 : w4.cell? ⟨m1, 3, none⟩ = some (.int .u64 (xo : Int)) := by simp [World.cell?, i1]
  have c4 : w4.cell? ⟨m1, 4, none⟩ = some (.int .u64 (xn : Int)) := by simp [World.cell?, i1]
  have d0 : w4.cell? ⟨n, 0, none⟩ = some (.int .i64 0) := by simp [World.cell?, i0]
  have d1 : w4.cell? ⟨n, 1, none⟩ = some (.int .u64 0) := by simp [World.cell?, i0]
  have d2 : w4.cell? ⟨n, 2, none⟩ = some (.int .i64 0) := by simp [World.cell?, i0]
  have d3 : w4.cell? ⟨n, 3, none⟩ = some (.int .u64 0) := by simp [World.cell?, i0]
  have d4 : w4.cell? ⟨n, 4, none⟩ = some (.int .u64 0) := by simp [World.cell?, i0]
  have f0 : w4.frozen? ⟨n, 0, none⟩ = false := by simp [World.frozen?, i0]
  have f1 : w4.frozen? ⟨n, 1, none⟩ = false := by simp [World.frozen?, i0]
  have f2 : w4.frozen? ⟨n, 2, none⟩ = false := by simp [World.frozen?, i0]
  have f3 : w4.frozen? ⟨n, 3, none⟩ = false := by simp [World.frozen?, i0]
  have f4 : w4.frozen? ⟨n, 4, none⟩ = false := by simp [World.frozen?, i0]
  clear i0 i1 nK t04 ha4 hap4 hr4 ht4 I0 I1 nF nH F3 AP S3 A3 T03
  go_wp2
  have hbn : Below w.heap.size w4 (((((w4.setCell ⟨n, 0, none⟩ (.int .i64 xk)).setCell ⟨n, 1, none⟩ (.int .u64 (xb : Int))).setCell ⟨n, 2, none⟩ (.int .i64 xc)).setCell ⟨n, 3, none⟩ (.int .u64 (xo : Int))).setCell ⟨n, 4, none⟩ (.int .u64 (xn : Int))) :=
    (((((Below.refl w.heap.size w4).setCell (p := ⟨n, 0, none⟩) (by simp only; omega) _).setCell (p := ⟨n, 1, none⟩) (by simp only; omega) _).setCell (p := ⟨n, 2, none⟩) (by simp only; omega) _).setCell (p := ⟨n, 3, none⟩) (by simp only; omega) _).setCell (p := ⟨n, 4, none⟩) (by simp only; omega) _
  have hkn : ∀ k, k ≠ n → (((((w4.setCell ⟨n, 0, none⟩ (.int .i64 xk)).setCell ⟨n, 1, none⟩ (.int .u64 (xb : Int))).setCell ⟨n, 2, none⟩ (.int .i64 xc)).setCell ⟨n, 3, none⟩ (.int .u64 (xo : Int))).setCell ⟨n, 4, none⟩ (.int .u64 (xn : Int))).heap[k]? = w4.heap[k]? := fun k hk => by
    rw [Below.heap_setCell _ _ _ _ hk, Below.heap_setCell _ _ _ _ hk, Below.heap_setCell _ _ _ _ hk, Below.heap_setCell _ _ _ _ hk, Below.heap_setCell _ _ _ _ hk]
  refine bodyPost_ret (v := .tuple #[av ⟨xk, xb, xc, xo, xn⟩, .int .u64 v, .bool true]) (by simp [results, Try.results24, go_sem, d0, d1, d2, d3, d4]) rfl ⟨rfl, F', Hp q au', ⟨D4.out.ar.keep fun k hk => hkn k (fun e => NK.out (.inl (e ▸ hk))), D4.out.ro.keep fun k hk => hkn k (fun e => NK.out (.inr (e ▸ hk))), D4.out.apart⟩, T4.out.then_below hbn⟩
set_option maxRecDepth 100000 in
set_option maxHeartbeats 8000000 in
theorem goon_none (pv rr : Value) (w : World) (KN : ∀ w1, Below w.heap.size w w1 → Calls Try.prog 20 #[rr] w1 (Gives (.tuple #[av ⟨0, 0, 0, 0, 0⟩, .bool false]) w1)) :
    Calls Try.prog 24 #[pv, rr] w (Gives (.tuple #[av ⟨0, 0, 0, 0, 0⟩, .int .u64 0, .bool false]) w) := by
  have HK := Lib.hid KN; clear KN
  obtain ⟨n, hn⟩ : ∃ n, n = w.heap.size := ⟨_, rfl⟩
  go_enter Try.func24, Try.ntmps24
  go_wp2_with fail
  obtain ⟨W, hW⟩ : ∃ W, W = w.alloc (.cells #[.int .i64 0, .int .u64 0, .int .i64 0, .int .u64 0, .int .u64 0] 42) := ⟨_, rfl⟩
  have hb : Below w.heap.size w W := by rw [hW]; exact (Below.refl _ w).alloc (Nat.le_refl _) _
  have k0 : W.heap[n]? = some (.cells #[.int .i64 0, .int .u64 0, .int .i64 0, .int .u64 0, .int .u64 0] 42 (0, 0)) := by rw [hW, hn]; exact World.alloc_heap_new w _
  have Hn := Lib.hid hn
  rw [← hW, ← hn]
  clear hW hn
  with_reducible refine (HK.out W hb).mono ?_
  rintro e w1 ⟨rfl, hb1⟩
  have j0 := (hb1.block _ (Array.getElem?_eq_some_iff.1 k0).1).trans k0
  have hlt := (Array.getElem?_eq_some_iff.1 j0).1
  have hbx : Below w1.heap.size w1 (w1.alloc (.cells #[.int .i64 0, .int .u64 0, .int .i64 0, .int .u64 0, .int .u64 0] 42)) := (Below.refl _ _).alloc (Nat.le_refl _) _
  have HB := Lib.hid ((hb.trans (hb1.mono hb.size)).trans (hbx.mono (hb.trans (hb1.mono hb.size)).size))
  have i0 := (hbx.block n hlt).trans j0
  clear k0 hb hb1 j0 hbx
  have d0 : (w1.alloc (.cells #[.int .i64 0, .int .u64 0, .int .i64 0, .int .u64 0, .int .u64 0] 42)).cell? ⟨n, 0, none⟩ = some (.int .i64 0) := by simp only [World.cell?, i0]; simp
  have d1 : (w1.alloc (.cells #[.int .i64 0, .int .u64 0, .int .i64 0, .int .u64 0, .int .u64 0] 42)).cell? ⟨n, 1, none⟩ = some (.int .u64 0) := by simp only [World.cell?, i0]; simp
  have d2 : (w1.alloc (.cells #[.int .i64 0, .int .u64 0, .int .i64 0, .int .u64 0, .int .u64 0] 42)).cell? ⟨n, 2, none⟩ = some (.int .i64 0) := by simp only [World.cell?, i0]; simp
  have d3 : (w1.alloc (.cells #[.int .i64 0, .int .u64 0, .int .i64 0, .int .u64 0, .int .u64 0] 42)).cell? ⟨n, 3, none⟩ = some (.int .u64 0) := by simp only [World.cell?, i0]; simp
  have d4 : (w1.alloc (.cells #[.int .i64 0, .int .u64 0, .int .i64 0, .int .u64 0, .int .u64 0] 42)).cell? ⟨n, 4, none⟩ = some (.int .u64 0) := by simp only [World.cell?, i0]; simp
  have f0 : (w1.alloc (.cells #[.int .i64 0, .int .u64 0, .int .i64 0, .int .u64 0, .int .u64 0] 42)).frozen? ⟨n, 0, none⟩ = false := by simp only [World.frozen?, i0]; simp
  have f1 : (w1.alloc (.cells #[.int .i64 0, .int .u64 0, .int .i64 0, .int .u64 0, .int .u64 0] 42)).frozen? ⟨n, 1, none⟩ = false := by simp only [World.frozen?, i0]; simp
  have f2 : (w1.alloc (.cells #[.int .i64 0, .int .u64 0, .int .i64 0, .int .u64 0, .int .u64 0] 42)).frozen? ⟨n, 2, none⟩ = false := by simp only [World.frozen?, i0]; simp
  have f3 : (w1.alloc (.cells #[.int .i64 0, .int .u64 0, .int .i64 0, .int .u64 0, .int .u64 0] 42)).frozen? ⟨n, 3, none⟩ = false := by simp only [World.frozen?, i0]; simp
  have f4 : (w1.alloc (.cells #[.int .i64 0, .int .u64 0, .int .i64 0, .int .u64 0, .int .u64 0] 42)).frozen? ⟨n, 4, none⟩ = false := by simp only [World.frozen?, i0]; simp
  clear i0 hlt
  go_wp2
  generalize w1.alloc (.cells #[.int .i64 0, .int .u64 0, .int .i64 0, .int .u64 0, .int .u64 0] 42) = W9 at *
  have hnw : w.heap.size ≤ n := by rw [Hn.out]; exact Nat.le_refl _
  exact bodyPost_ret (v := .tuple #[av ⟨0, 0, 0, 0, 0⟩, .int .u64 0, .bool false]) (by simp [results, Try.results24, go_sem, d0, d1, d2, d3, d4]) rfl ⟨rfl, ((((HB.out.setCell (p := ⟨n, 0, none⟩) (by simp only; omega) _).setCell (p := ⟨n, 1, none⟩) (by simp only; omega) _).setCell (p := ⟨n, 2, none⟩) (by simp only; omega) _).setCell (p := ⟨n, 3, none⟩) (by simp only; omega) _).setCell (p := ⟨n, 4, none⟩) (by simp only; omega) _⟩
/-- No act comes any more: nothing happens. -/
theorem goon_end {B : Nat} {w : World} {q : Nat} {a : Option Addr} {N c : Nat} {gs : List Int} {H : Nat → Prop} (pv : Value) (h : Ro B w q a N c gs H) (hm : N ≤ gs.length) :
    Calls Try.prog 24 #[pv, rv q] w (Gives (.tuple #[av ⟨0, 0, 0, 0, 0⟩, .int .u64 0, .bool false]) w) :=
  goon_none pv (rv q) w fun w1 hb => next_some q ⟨0, 0, 0, 0, 0⟩ false w1 fun w2 hb2 => by
    have hbb := hb.trans (hb2.mono hb.size)
    obtain ⟨au, cu, e1, -⟩ := (h.below hbb).c1
    exact ract_end q a au N c gs.length cu w2 (h.below hbb).c0 e1 hm
theorem goon_nil (pv : Value) (w : World) : Calls Try.prog 24 #[pv, .nilIface] w (Gives (.tuple #[av ⟨0, 0, 0, 0, 0⟩, .int .u64 0, .bool false]) w) :=
  goon_none pv .nilIface w fun w1 _ => next_nil w1
/-- Whether an act comes. -/
theorem next_any {B : Nat} {w : World} {q : Nat} {a : Option Addr} {N c : Nat} {gs : List Int} {H : Nat → Prop} (h : Ro B w q a N c gs H) (hx : gs.length < N → ∃ x, ∀ w1, Below w.heap.size w w1 → ActAt a w1 gs.length x) :
    ∃ x, Calls Try.prog 20 #[rv q] w (Gives (.tuple #[av x, .bool (decide (gs.length < N))]) w) := by
  by_cases hm : gs.length < N
  · obtain ⟨x, hx⟩ := hx hm
    refine ⟨x, ?_⟩
    rw [decide_eq_true hm]
    refine next_some q x true w fun w2 hb2 => ?_
    obtain ⟨au, cu, e1, -⟩ := (h.below hb2).c1
    exact ract_more q a au N c gs.length cu x w2 (h.below hb2).c0 e1 hm (hx w2 hb2)
  · refine ⟨⟨0, 0, 0, 0, 0⟩, ?_⟩
    rw [decide_eq_false hm]
    refine next_some q _ false w fun w2 hb2 => ?_
    obtain ⟨au, cu, e1, -⟩ := (h.below hb2).c1
    exact ract_end q a au N c gs.length cu w2 (h.below hb2).c0 e1 (by omega)
end Go.Proofs.Ythldjdkjgiebaaa
