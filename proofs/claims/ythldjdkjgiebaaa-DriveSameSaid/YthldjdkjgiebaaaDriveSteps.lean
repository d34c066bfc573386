/-
  The walk of the law's steps: what is told, step by step. By an AI agent.
-/
import Derived.Test.YthldjdkjgiebaaaDriveLp
set_option linter.unusedSimpArgs false
set_option linter.unusedVariables false
namespace Go.Proofs.Ythldjdkjgiebaaa
open Go.RowKit Go.Shelf Go.Maps
open Mm (Mem Blk)
open Ac (A)
attribute [local go_sem] Oper.semAt_some
/-- A step's cells. -/
def cs7 (i : Int) (x : A) (v : Int) : List Value := [.int .i64 i, .int .i64 x.k, .int .u64 x.b, .int .i64 x.c, .int .u64 x.o, .int .u64 x.n, .int .u64 v]
theorem info_rstep : (Try.prog.info? 44).map (fun i => (i.zero, i.size, i.bytes)) = some (some (.agg #[.int .i64 0, .int .i64 0, .int .u64 0, .int .i64 0, .int .u64 0, .int .u64 0, .int .u64 0]), 7, 56) := by kernel_rfl
theorem info_dstep : (Try.prog.info? 63).map (fun i => (i.zero, i.size, i.bytes)) = some (some (.agg #[.int .i64 0, .int .i64 0, .int .u64 0, .int .i64 0, .int .u64 0, .int .u64 0, .int .u64 0]), 7, 56) := by kernel_rfl
/-- Steps as cells. -/
def rows7 (ts : List (Int × A × Int)) : List Value := ts.flatMap fun t => cs7 t.1 t.2.1 t.2.2
theorem rows7_snoc (ts : List (Int × A × Int)) (i : Int) (x : A) (v : Int) : rows7 (ts ++ [(i, x, v)]) = rows7 ts ++ cs7 i x v := by simp [rows7]
/-- The steps of one routine. -/
noncomputable def tl (S : Mem) (xs : Nat → A) (k : Nat) : List (Int × A × Int) := (List.range k).map fun j => (0, xs j, an S xs j)
theorem tl_succ (S : Mem) (xs : Nat → A) (k : Nat) : tl S xs (k + 1) = tl S xs k ++ [(0, xs k, an S xs k)] := by simp [tl, List.range_succ]
theorem tl_len (S : Mem) (xs : Nat → A) (k : Nat) : (tl S xs k).length = k := by simp [tl]
/-- An append to a row that is neither the arena's nor the routine's. -/
theorem Lp.grown {B : Nat} {w W W1 : World} {F0 H0 : Nat → Prop} {p q : Nat} {S : Mem} {a : Option Addr} {N c n1 : Nat} {gs : List Int} (h : Lp B w F0 H0 p S q a N c gs n1 W) {row : Option Nat} (hg : W.grownBy W1 row) (hr : ∀ k, row = some k → w.heap.size ≤ k ∧ ∃ cs t, W.heap[k]? = some (.cells cs t (0, 0)) ∧ alien (.cells cs t (0, 0)) = true) : Lp B w F0 H0 p S q a N c gs n1 W1 :=
  h.keep hg.os hg.tape hg.output hg.size fun k hk hh => hg.block k hk (fun e => by
    obtain ⟨h1, cs, t, h2, h3⟩ := hr k e.symm
    rcases hh with hh | hh
    · omega
    · have := hh.2 _ h2; rw [h3] at this; cases this)
theorem own_typed {w : World} {base : Nat} {e : TypeId} {size : Nat} {v : Value} {n : Nat} {xs : List Value} (h : w.ownsRow base e size v n xs) (k : Nat) (hk : v.ownBlock = some k) : base ≤ k ∧ ∃ cs, w.heap[k]? = some (.cells cs e (0, 0)) := by
  rcases h.2 with ⟨rfl, _⟩ | ⟨g, cap, cur, rfl, hb, hg, _⟩
  · cases hk
  · cases hk; exact ⟨hb, cur, hg⟩
theorem cell_seven (W : World) (i : Int) (x : A) (v : Int) (t : TypeId) : ∀ j u, (cs7 i x v)[j]? = some u → (W.alloc (.cells #[.int .i64 i, .int .i64 x.k, .int .u64 x.b, .int .i64 x.c, .int .u64 x.o, .int .u64 x.n, .int .u64 v] t)).cell? ((⟨W.heap.size, 0, none⟩ : Addr).add j) = some u := by
  have e : (W.alloc (.cells #[.int .i64 i, .int .i64 x.k, .int .u64 x.b, .int .i64 x.c, .int .u64 x.o, .int .u64 x.n, .int .u64 v] t)).heap[W.heap.size]? = some (.cells #[.int .i64 i, .int .i64 x.k, .int .u64 x.b, .int .i64 x.c, .int .u64 x.o, .int .u64 x.n, .int .u64 v] t (0, 0)) := World.alloc_heap_new W _
  intro j u hj
  rw [Addr.add_lit]
  simp only [World.cell?, Nat.zero_add]
  rw [e]
  simpa [cs7] using hj
theorem cs7_one (i : Int) (x : A) (v : Int) : ∀ u ∈ cs7 i x v, u.oneCell' = true := by intro u hu; simp [cs7] at hu; rcases hu with rfl | rfl | rfl | rfl | rfl | rfl | rfl <;> rfl
/-- The boxes of steps. -/
def Bx5 (n0 : Nat) (most : Int) (v : Value) (p q : Nat) (W : World) : Prop := Boxed W n0 3 (.int .i64 most) ∧ Boxed W (n0 + 1 + 1) 32 v ∧ Boxed W (n0 + 1 + 1 + 1) 30 (.pointer (some ⟨p, 0, none⟩)) ∧ Boxed W (n0 + 1 + 1 + 1 + 1) 57 (rv q)
section
variable {n0 : Nat} {most : Int} {v : Value} {p q : Nat} {W W' : World}
theorem Bx5.keep (h : Bx5 n0 most v p q W) (hk : KeepsAlien W W') : Bx5 n0 most v p q W' := ⟨hk.boxed h.1 rfl, hk.boxed h.2.1 rfl, hk.boxed h.2.2.1 rfl, hk.boxed h.2.2.2 rfl⟩
theorem Bx5.keep' (h : Bx5 n0 most v p q W) (hk : ∀ j, j = n0 ∨ j = n0 + 1 + 1 ∨ j = n0 + 1 + 1 + 1 ∨ j = n0 + 1 + 1 + 1 + 1 → W'.heap[j]? = W.heap[j]?) : Bx5 n0 most v p q W' :=
  ⟨boxed_keep h.1 (hk _ (.inl rfl)), boxed_keep h.2.1 (hk _ (.inr (.inl rfl))), boxed_keep h.2.2.1 (hk _ (.inr (.inr (.inl rfl)))), boxed_keep h.2.2.2 (hk _ (.inr (.inr (.inr rfl))))⟩
theorem Bx5.alloc (h : Bx5 n0 most v p q W) (o : Obj) : Bx5 n0 most v p q (W.alloc o) := ⟨h.1.alloc _, h.2.1.alloc _, h.2.2.1.alloc _, h.2.2.2.alloc _⟩
theorem Bx5.putRec (h : Bx5 n0 most v p q W) {l : Nat} {o o' : Obj} (ho : W.heap[l]? = some o) (hr : isRec o = true) : Bx5 n0 most v p q (W.putObj l o') := by
  have hne : ∀ {b : Nat} {t : TypeId} {u : Value}, Boxed W b t u → b ≠ l := fun hb e => by
    subst e
    rw [show W.heap[_]? = _ from hb] at ho; cases ho; cases hr
  refine h.keep' fun j hj => World.putObj_heap_other ?_
  rcases hj with rfl | rfl | rfl | rfl
  · exact hne h.1
  · exact hne h.2.1
  · exact hne h.2.2.1
  · exact hne h.2.2.2
theorem row_putRec {base : Nat} {t : TypeId} {sz n : Nat} {u : Value} {xs : List Value} (h : W.ownsRow base t sz u n xs) {l : Nat} {o o' : Obj} (ho : W.heap[l]? = some o) (hr : isRec o = true) : (W.putObj l o').ownsRow base t sz u n xs := ownsRow_putObj h _ ho (by cases o <;> first | rfl | cases hr)
end
/-- The state of steps: its row holds k steps, j acts are done. -/
def StI (B : Nat) (w : World) (F0 H0 : Nat → Prop) (p : Nat) (S0 : Mem) (q : Nat) (a : Option Addr) (N c : Nat) (xs : Nat → A) (n0 : Nat) (most : Int) (k j : Nat) (W : World) : Prop :=
  ∃ v, Bx5 n0 most v p q W ∧ W.ownsRow n0 44 7 v k (rows7 (tl S0 xs k)) ∧ v ≠ .slice none 0 0 ∧ Lp B w F0 H0 p (mm S0 xs j) q a N c (ans S0 xs j) (n0 + 5) W
theorem StI.putRec {B : Nat} {w : World} {F0 H0 : Nat → Prop} {p : Nat} {S0 : Mem} {q : Nat} {a : Option Addr} {N c : Nat} {xs : Nat → A} {n0 : Nat} {most : Int} {k j : Nat} {W : World} (h : StI B w F0 H0 p S0 q a N c xs n0 most k j W) {l : Nat} {o o' : Obj} (hl : w.heap.size ≤ l) (ho : W.heap[l]? = some o) (hr : isRec o = true) : StI B w F0 H0 p S0 q a N c xs n0 most k j (W.putObj l o') := by
  obtain ⟨v, h1, h2, hv, h3⟩ := h
  exact ⟨v, h1.putRec ho hr, row_putRec h2 ho hr, hv, h3.putRec hl ho hr⟩
/-- What steps comes to: d steps were told. -/
def LSteps (B : Nat) (w : World) (F0 H0 : Nat → Prop) (p : Nat) (S0 : Mem) (q : Nat) (a : Option Addr) (N c : Nat) (xs : Nat → A) (d : Nat) (e : Ending) (w' : World) : Prop :=
  ∃ v, e = .returned v ∧ w'.ownsRow w.heap.size 44 7 v d (rows7 (tl S0 xs d)) ∧ v ≠ .slice none 0 0 ∧ ∃ F H, Du B w' p (mm S0 xs d) q a N c (ans S0 xs d) F H ∧ Tn (Or2 F0 H0) (Or2 F H) w w'
set_option maxRecDepth 100000 in
set_option maxHeartbeats 4000000 in
theorem lsteps_in (n : Nat) (hn : 9 ≤ n) {B : Nat} {w : World} {p q : Nat} {S0 : Mem} {a : Option Addr} {N c : Nat} {F0 H0 : Nat → Prop} (h : Du B w p S0 q a N c [] F0 H0) (hB : B ≤ w.heap.size) (xs : Nat → A) (hx : ∀ w1, Below B w w1 → ∀ j, j < N → ActAt a w1 j (xs j)) (most : Int) (hm : 1 ≤ most)
    (hS : Mid S0 0) (hN : N ≤ 1000) (hfit : ∀ j, j < N → Fits (xs j)) :
    CallsIn Fence.wide n Try.prog 17 #[.pointer (some ⟨p, 0, none⟩), rv q, .int .i64 most] w (LSteps B w F0 H0 p S0 q a N c xs (min most.toNat N)) := by
  have hd : decide (most < 1) = false := by simp; omega
  have g1 : 1 ≤ n := by omega
  obtain ⟨i0, hi, hz0, hz1, hz2⟩ := info_parts info_rstep
  have Hz0 := Lib.hid hz0; clear hz0
  have Hz1 := Lib.hid hz1; clear hz1
  have Hz2 := Lib.hid hz2; clear hz2
  have Hi := Lib.hid hi; clear hi
  have hnil : ∀ (cap : Array Value) (w : World), (binOp BinOp.eql 59 (.func (.func 28) #[] cap) .nilFunc).run Try.prog w = .ok (.bool false) w := fun _ _ => by kernel_rfl
  have HD := Lib.hid h; clear h
  have HX := Lib.hid hx; clear hx
  have HF := Lib.hid hfit; clear hfit
  have KS := Lib.hid (fun (n : Nat) (w1 : World) => steps_call n (.pointer (some ⟨p, 0, none⟩)) (rv q) rfl rfl w1)
  have hf1 : Fence.wide.fn 19 := trivial
  refine callsIn_of_wp_marks Try.func17 rfl trivial ?_ rfl
  simp only [Try.ntmps17, List.size_toArray, List.length_cons, List.length_nil, Nat.reduceAdd, Nat.reduceSub, Array.replicate_succ, Array.replicate_zero, List.push_toArray, List.append_toArray, List.nil_append, List.cons_append]
  gi_wp2_with (gi_at_call 19; refine (KS.out _ _).mono ?_; rintro e w1 ⟨rfl, rfl⟩)
  obtain ⟨w4, hw4⟩ : ∃ w4, w4 = (((((w.alloc (.cells #[.int .i64 most] 3)).alloc (.cells #[] 44)).alloc (.cells #[.slice (some ⟨w.heap.size + 1, 0, none⟩) 0 0] 32)).alloc (.cells #[.pointer (some ⟨p, 0, none⟩)] 30)).alloc (.cells #[rv q] 57)) := ⟨_, rfl⟩
  have hz4 : w4.heap.size = w.heap.size + 5 := by rw [hw4]; simp
  have hb4 : Below w.heap.size w w4 := by rw [hw4]; exact (((((Below.refl _ w).alloc (Nat.le_refl _) _).alloc (by simp) _).alloc (by simp; omega) _).alloc (by simp; omega) _).alloc (by simp; omega) _
  have x0 : Boxed w4 w.heap.size 3 (.int .i64 most) := by rw [hw4]; exact ((((Boxed.new w 3 (.int .i64 most)).alloc _).alloc _).alloc _).alloc _
  have xe : w4.heap[w.heap.size + 1]? = some (.cells #[] 44 (0, 0)) := by rw [hw4, Below.heap_alloc _ _ _ (by simp <;> omega), Below.heap_alloc _ _ _ (by simp <;> omega), Below.heap_alloc _ _ _ (by simp)]; have := World.alloc_heap_new (w.alloc (.cells #[.int .i64 most] 3)) (.cells #[] 44); rwa [World.size_alloc] at this
  have x1 : Boxed w4 (w.heap.size + 1 + 1) 32 (.slice (some ⟨w.heap.size + 1, 0, none⟩) 0 0) := by rw [hw4]; have := Boxed.new ((w.alloc (.cells #[.int .i64 most] 3)).alloc (.cells #[] 44)) 32 (.slice (some ⟨w.heap.size + 1, 0, none⟩) 0 0); rw [World.size_alloc, World.size_alloc] at this; exact (this.alloc _).alloc _
  have x2 : Boxed w4 (w.heap.size + 1 + 1 + 1) 30 (.pointer (some ⟨p, 0, none⟩)) := by rw [hw4]; have := Boxed.new (((w.alloc (.cells #[.int .i64 most] 3)).alloc (.cells #[] 44)).alloc (.cells #[.slice (some ⟨w.heap.size + 1, 0, none⟩) 0 0] 32)) 30 (.pointer (some ⟨p, 0, none⟩)); rw [World.size_alloc, World.size_alloc, World.size_alloc] at this; exact this.alloc _
  have x3 : Boxed w4 (w.heap.size + 1 + 1 + 1 + 1) 57 (rv q) := by rw [hw4]; have := Boxed.new ((((w.alloc (.cells #[.int .i64 most] 3)).alloc (.cells #[] 44)).alloc (.cells #[.slice (some ⟨w.heap.size + 1, 0, none⟩) 0 0] 32)).alloc (.cells #[.pointer (some ⟨p, 0, none⟩)] 30)) 57 (rv q); rw [World.size_alloc, World.size_alloc, World.size_alloc, World.size_alloc] at this; exact this
  rw [← hw4]
  clear hw4
  obtain ⟨n0, hn0⟩ : ∃ n0, n0 = w.heap.size := ⟨_, rfl⟩
  rw [← hn0] at x0 x1 x2 x3 xe hz4 ⊢
  have r0 : w4.ownsRow n0 44 7 (.slice (some ⟨n0 + 1, 0, none⟩) 0 0) 0 (rows7 (tl S0 xs 0)) := ⟨by simp [tl, rows7], .inr ⟨n0 + 1, 0, #[], rfl, by omega, xe, Nat.le_refl _, by unfold maxLen; omega, rfl, by simp [tl, rows7]⟩⟩
  have hnA : w.heap.size ≤ n0 := by omega
  have hnB : n0 ≤ w.heap.size := by omega
  have hnE : Hid (n0 = w.heap.size) := Lib.hid hn0
  have L0 : Lp B w F0 H0 p S0 q a N c [] (n0 + 5) w4 := Lp.start HD.out hb4 (by omega)
  clear hn0
  have hfoot : ∀ k, Or2 F0 H0 k → B ≤ k := fun k hk => (HD.out.foot hk).1
  have HR0 := Lib.hid r0
  clear r0 xe
  gi_wp2_with fail
  refine range_steps (by omega) (n0 + 1 + 1 + 1) (n0 + 1 + 1 + 1 + 1) (.pointer (some ⟨p, 0, none⟩)) (rv q) rfl rfl N xs (an S0 xs)
    (fun k W => k ≤ N ∧ (k : Int) < most ∧ StI B w F0 H0 p S0 q a N c xs n0 most k k W)
    (fun k W => k < N ∧ (k : Int) < most ∧ StI B w F0 H0 p S0 q a N c xs n0 most k (k + 1) W)
    (fun k a1 W => ∃ bx, a1 = { tmps := #[.pointer (some ⟨p, 0, none⟩), rv q, .int .i64 most, undef, undef, .pointer (some ⟨n0, 0, none⟩), .slice none 0 0, .pointer (some ⟨n0 + 1 + 1, 0, none⟩), .func (.func 28) #[] #[.pointer (some ⟨n0 + 1 + 1 + 1, 0, none⟩), .pointer (some ⟨n0 + 1 + 1 + 1 + 1, 0, none⟩)], .pointer (some ⟨bx, 0, none⟩), .int .u64 (an S0 xs k), .slice (some ⟨n0 + 1, 0, none⟩) 0 0, .pointer (some ⟨p, 0, none⟩), rv q, .func (.func 28) #[] #[.pointer (some ⟨n0 + 1 + 1 + 1, 0, none⟩), .pointer (some ⟨n0 + 1 + 1 + 1 + 1, 0, none⟩)], .func (.func 28) #[] #[.pointer (some ⟨n0 + 1 + 1 + 1, 0, none⟩), .pointer (some ⟨n0 + 1 + 1 + 1 + 1, 0, none⟩)], .bool false, .bool false, .int .i64 most, .bool false, .bool false, undef, .func (.func 28) #[] #[.pointer (some ⟨n0 + 1 + 1 + 1, 0, none⟩), .pointer (some ⟨n0 + 1 + 1 + 1 + 1, 0, none⟩)], av (xs k), .int .u64 (an S0 xs k), undef, undef, undef, undef, undef, undef, undef, undef, undef, undef, undef], defers := [] } ∧ W.heap[bx]? = some (.cells #[.int .i64 (xs k).k, .int .u64 (xs k).b, .int .i64 (xs k).c, .int .u64 (xs k).o, .int .u64 (xs k).n] 42 (0, 0)) ∧ k < N ∧ (k : Int) < most ∧ StI B w F0 H0 p S0 q a N c xs n0 most k (k + 1) W)
    (fun W => (N : Int) < most ∧ StI B w F0 H0 p S0 q a N c xs n0 most N N W)
    (fun cd k W => cd = .exit 0 ∧ k ≤ N ∧ (k : Int) = most ∧ StI B w F0 H0 p S0 q a N c xs n0 most k k W)
    (fun W => N - gotLen q W) ?bI ?bI2 ?bd ?bx ?h0 ?hmu ?hG ?hassign ?hbody ?hdone ?hstop
  case bI => exact fun s W l o o' ⟨h1, h2, h3⟩ hl ho hr hr' => ⟨h1, h2, h3.putRec (by omega) ho hr⟩
  case bI2 => exact fun s W l o o' ⟨bx, h0, hb, h1, h2, h3⟩ hl ho hr hr' => ⟨bx, h0, (World.putObj_heap_other (fun e => by subst e; rw [hb] at ho; cases ho; cases hr)).trans hb, h1, h2, h3.putRec (by omega) ho hr⟩
  case bd => exact fun s W l o o' ⟨h2, h3⟩ hl ho hr hr' => ⟨h2, h3.putRec (by omega) ho hr⟩
  case bx => exact fun cd s W l o o' ⟨h0, h1, h2, h3⟩ hl ho hr hr' => ⟨h0, h1, h2, h3.putRec (by omega) ho hr⟩
  case h0 => exact fun r => ⟨Nat.zero_le _, by omega, _, Bx5.alloc (Bx5.alloc ⟨x0, x1, x2, x3⟩ _) _, (HR0.out.alloc _).alloc _, by simp, (L0.alloc _).alloc _⟩
  case hmu =>
    rintro k W ⟨h1, h2, v, h3, hr, hv, h4⟩
    obtain ⟨H, hr⟩ := h4.ro
    refine ⟨h1, ?_⟩
    show N - gotLen q W = N - k
    rw [gotLen_of hr, ans_len]
  case hG =>
    rintro k W ⟨h1, h2, v, h3, hrow, hv, h4⟩
    refine ⟨h3.2.2.1.cell, h3.2.2.2.cell, ?_⟩
    by_cases hlt : k < N
    · refine .inl ⟨hlt, (h4.step2 hfoot hB (by rw [ans_len]; exact hlt) (by rw [ans_len]; omega) (xs k) (an S0 xs k) (fun w1 hb => by rw [ans_len]; exact HX.out w1 hb k hlt) (mm_nx hS (by omega) HF.out hlt).does).mono ?_⟩
      rintro e W2 ⟨rfl, hr, hbx, hsz, hl⟩
      refine ⟨rfl, hr.rec, hlt, h2, v, (h3.keep hr).alloc _, (hr.row hrow (fun _ => rfl)).alloc _, hv, ?_⟩
      rw [ans_succ]
      exact hl.alloc _
    · obtain rfl : k = N := by omega
      refine .inr ⟨rfl, (h4.stop _ (by rw [ans_len]; exact Nat.le_refl _)).mono ?_⟩
      rintro e W2 ⟨rfl, hr, hb, hl⟩
      exact ⟨rfl, hr, h2, v, (h3.keep (KeepsAlien.below hb)).alloc _, ((KeepsAlien.below hb).row hrow (fun _ => rfl)).alloc _, hv, hl.alloc _⟩
  case hassign =>
    rintro l k W K ⟨hi1, hi2, v, h3, hrow, hv, h4⟩ hK
    have HK := Lib.hid hK; clear hK
    have H3 := Lib.hid h3; clear h3
    have HRW := Lib.hid hrow; clear hrow
    have H4 := Lib.hid h4; clear h4
    have HV := Lib.hid hv; clear hv
    gi_wp2
    exact HK.out _ _ (KeepsRec.alloc _ _) ⟨W.heap.size, rfl, World.alloc_heap_new _ _, hi1, hi2, v, H3.out.alloc _, HRW.out.alloc _, HV.out, H4.out.alloc _⟩
  case hbody =>
    rintro l k a1 W ⟨bx, rfl, hbxx, hlt', hlm, v, hbox, hrow, hv, hlp⟩ hlt
    obtain ⟨b0, b1, b2, b3⟩ := hbox
    have c0 := b0.cell
    have c1 := b1.cell
    have f1 := b1.frozen
    have d0 : W.cell? ⟨bx, 0, none⟩ = some (.int .i64 (xs k).k) := by simp [World.cell?, hbxx]
    have d1 : W.cell? ⟨bx, 1, none⟩ = some (.int .u64 ((xs k).b : Int)) := by simp [World.cell?, hbxx]
    have d2 : W.cell? ⟨bx, 2, none⟩ = some (.int .i64 (xs k).c) := by simp [World.cell?, hbxx]
    have d3 : W.cell? ⟨bx, 3, none⟩ = some (.int .u64 ((xs k).o : Int)) := by simp [World.cell?, hbxx]
    have d4 : W.cell? ⟨bx, 4, none⟩ = some (.int .u64 ((xs k).n : Int)) := by simp [World.cell?, hbxx]
    have hk8 : k ≤ 1000 := by omega
    have hsz := hlp.size
    have hwsz := hlp.wsize
    have HV := Lib.hid hv; clear hv hbxx
    gi_wp2_with (gi_at_builtin; refine wpListIn_append_own_at _ rfl _ _ 32 rfl n0 44 i0 _ 7 56 Try.underlying32 Hi.out Hz0.out Hz1.out Hz2.out rfl (by decide) _ _ _ rfl (hrow.alloc _) ⟨W.heap.size, 0, none⟩ 1 1 (cs7 0 (xs k) (an S0 xs k)) rfl rfl (cell_seven _ _ _ _ _) (cs7_one _ _ _) (by unfold maxLen; omega) (by omega) (by simp; omega) ?_; intro v' w1 hown' hgrow hnil' hat; obtain ⟨g', cap', rfl⟩ := ownsRow_succ hown'; obtain ⟨hv1, hv2, hr2, hk2, hb2⟩ := b1.appended (by decide) hrow (by omega) (by omega) hown' hgrow; have e0 := ((b0.alloc _).kept hgrow (b0.not_row (by decide) hrow)); have e2 := ((b2.alloc _).kept hgrow (b2.not_row (by decide) hrow)); have e3 := ((b3.alloc _).kept hgrow (b3.not_row (by decide) hrow)); have z0 := e0.other (B' := n0 + 1 + 1) (by omega) (.slice (some ⟨g', 0, none⟩) (k + 1) cap'); have z2 := e2.other (B' := n0 + 1 + 1) (by omega) (.slice (some ⟨g', 0, none⟩) (k + 1) cap'); have z3 := e3.other (B' := n0 + 1 + 1) (by omega) (.slice (some ⟨g', 0, none⟩) (k + 1) cap'); have hc1 := hv1.cell; have hf1 := hv1.frozen; have hc2 := hv2.cell; have hc0 := z0.cell)
    all_goals rename_i he
    all_goals have hLf := ((hlp.alloc (.cells #[.int .i64 0, .int .i64 (xs k).k, .int .u64 (xs k).b, .int .i64 (xs k).c, .int .u64 (xs k).o, .int .u64 (xs k).n, .int .u64 (an S0 xs k)] 44)).grown hgrow (fun j hj => by
      obtain ⟨h1, cs, h2⟩ := own_typed (hrow.alloc (.cells #[.int .i64 0, .int .i64 (xs k).k, .int .u64 (xs k).b, .int .i64 (xs k).c, .int .u64 (xs k).o, .int .u64 (xs k).n, .int .u64 (an S0 xs k)] 44)) j hj
      exact ⟨by omega, cs, _, h2, rfl⟩)).set (b := n0 + 1 + 1) (by omega) (by omega) 0 (.slice (some ⟨g', 0, none⟩) (k + 1) cap')
    all_goals have hKf := ((KeepsRec.alloc W (.cells #[.int .i64 0, .int .i64 (xs k).k, .int .u64 (xs k).b, .int .i64 (xs k).c, .int .u64 (xs k).o, .int .u64 (xs k).n, .int .u64 (an S0 xs k)] 44)).trans (KeepsRec.grown hgrow (own_block' (hrow.alloc _)))).trans (KeepsRec.set (o := 0) (v := .slice (some ⟨g', 0, none⟩) (k + 1) cap') hv1)
    all_goals have hSt : StI B w F0 H0 p S0 q a N c xs n0 most (k + 1) (k + 1) (w1.setCell ⟨n0 + 1 + 1, 0, none⟩ (.slice (some ⟨g', 0, none⟩) (k + 1) cap')) := ⟨_, ⟨z0, hv2, z2, z3⟩, by rw [tl_succ, rows7_snoc]; exact hr2, by simp, hLf⟩
    · have he' : (k : Int) + 1 = most := by simpa using he
      exact ⟨hKf, rfl, hlt', by simpa using he', hSt⟩
    · have he' : (k : Int) + 1 ≠ most := by simpa using he
      exact ⟨hKf, hlt', by simp only [Int.natCast_add, Int.natCast_one]; omega, hSt⟩
  case hdone =>
    rintro D W hD ⟨hlm, v, hbox, hrow, hv, hlp⟩ hK
    have hc := hbox.2.1.cell
    have HRW := Lib.hid hrow; clear hrow
    have HV := Lib.hid hv; clear hv
    have HLP := Lib.hid hlp; clear hlp
    have HK := Lib.hid hK; clear hK
    gi_wp2
    obtain ⟨Fz, Hz, hdz, htz⟩ := (HLP.out.putRec (o' := .deferred none) (by omega) HK.out rfl).out
    refine ⟨by simp, .inl ⟨_, _, rfl, run_takeDeferred HK.out, ?_⟩⟩
    have hmin : min most.toNat N = N := by omega
    rw [hmin]
    exact ⟨_, results_tmp rfl _ _ _, v, rfl, by rw [← hnE.out]; exact row_putRec HRW.out HK.out rfl, HV.out, Fz, Hz, hdz, htz⟩
  case hstop =>
    rintro D cd k W hD ⟨rfl, hkN, hkm, v, hbox, hrow, hv, hlp⟩ hK
    have hc := hbox.2.1.cell
    have HRW := Lib.hid hrow; clear hrow
    have HV := Lib.hid hv; clear hv
    have HLP := Lib.hid hlp; clear hlp
    have HK := Lib.hid hK; clear hK
    have hmin : min most.toNat N = k := by omega
    have HMIN := Lib.hid hmin
    clear hmin hkm
    gi_wp2
    obtain ⟨Fz, Hz, hdz, htz⟩ := (HLP.out.putRec (o' := .deferred none) (by omega) HK.out rfl).out
    refine ⟨by simp, .inl ⟨_, _, rfl, run_takeDeferred HK.out, ?_⟩⟩
    rw [HMIN.out]
    exact ⟨_, results_tmp rfl _ _ _, v, rfl, by rw [← hnE.out]; exact row_putRec HRW.out HK.out rfl, HV.out, Fz, Hz, hdz, htz⟩
set_option maxRecDepth 100000 in
set_option maxHeartbeats 4000000 in
theorem lsteps_zero {B : Nat} {w : World} {p q : Nat} {S0 : Mem} {a : Option Addr} {N c : Nat} {F0 H0 : Nat → Prop} (h : Du B w p S0 q a N c [] F0 H0) (xs : Nat → A) (most : Int) (hm : most < 1) :
    Calls Try.prog 17 #[.pointer (some ⟨p, 0, none⟩), rv q, .int .i64 most] w (LSteps B w F0 H0 p S0 q a N c xs 0) := by
  have hd : decide (most < 1) = true := by simp; omega
  have hnil : ∀ (cap : Array Value) (w : World), (binOp BinOp.eql 59 (.func (.func 28) #[] cap) .nilFunc).run Try.prog w = .ok (.bool false) w := fun _ _ => by kernel_rfl
  have KS := Lib.hid (fun (w1 : World) => (callsIn_wide (n := 9)).1 (steps_call 9 (.pointer (some ⟨p, 0, none⟩)) (rv q) rfl rfl w1))
  have HD := Lib.hid h; clear h
  go_enter Try.func17, Try.ntmps17
  go_wp2_with fail
  with_reducible refine (KS.out _).mono ?_
  rintro e w1 ⟨rfl, rfl⟩
  go_wp2
  have hb4 : Below w.heap.size w (((((w.alloc (.cells #[.int .i64 most] 3)).alloc (.cells #[] 44)).alloc (.cells #[.slice (some ⟨w.heap.size + 1, 0, none⟩) 0 0] 32)).alloc (.cells #[.pointer (some ⟨p, 0, none⟩)] 30)).alloc (.cells #[rv q] 57)) := (((((Below.refl _ w).alloc (Nat.le_refl _) _).alloc (by simp) _).alloc (by simp; omega) _).alloc (by simp; omega) _).alloc (by simp; omega) _
  have xe : (((((w.alloc (.cells #[.int .i64 most] 3)).alloc (.cells #[] 44)).alloc (.cells #[.slice (some ⟨w.heap.size + 1, 0, none⟩) 0 0] 32)).alloc (.cells #[.pointer (some ⟨p, 0, none⟩)] 30)).alloc (.cells #[rv q] 57)).heap[w.heap.size + 1]? = some (.cells #[] 44 (0, 0)) := by rw [Below.heap_alloc _ _ _ (by simp <;> omega), Below.heap_alloc _ _ _ (by simp <;> omega), Below.heap_alloc _ _ _ (by simp)]; have := World.alloc_heap_new (w.alloc (.cells #[.int .i64 most] 3)) (.cells #[] 44); rwa [World.size_alloc] at this
  go_ret
  refine ⟨_, rfl, ⟨by simp [tl, rows7], .inr ⟨w.heap.size + 1, 0, #[], rfl, by omega, xe, Nat.le_refl _, by unfold maxLen; omega, rfl, by simp [tl, rows7]⟩⟩, by simp, F0, H0, ?_, Tn.of_below hb4⟩
  rw [show mm S0 xs 0 = S0 from rfl, show ans S0 xs 0 = [] by simp [ans]]
  exact HD.out.below hb4
/-- ████ The law's steps. ████ -/
theorem lsteps_any {B : Nat} {w : World} {p q : Nat} {S0 : Mem} {a : Option Addr} {N c : Nat} {F0 H0 : Nat → Prop} (h : Du B w p S0 q a N c [] F0 H0) (hB : B ≤ w.heap.size) (xs : Nat → A) (hx : ∀ w1, Below B w w1 → ∀ j, j < N → ActAt a w1 j (xs j)) (most : Int)
    (hS : Mid S0 0) (hN : N ≤ 1000) (hfit : ∀ j, j < N → Fits (xs j)) :
    Calls Try.prog 17 #[.pointer (some ⟨p, 0, none⟩), rv q, .int .i64 most] w (LSteps B w F0 H0 p S0 q a N c xs (min most.toNat N)) := by
  by_cases hm : 1 ≤ most
  · exact (callsIn_wide (n := 9)).1 (lsteps_in 9 (by omega) h hB xs hx most hm hS hN hfit)
  · rw [show min most.toNat N = 0 by omega]
    exact lsteps_zero h xs most (by omega)
end Go.Proofs.Ythldjdkjgiebaaa
