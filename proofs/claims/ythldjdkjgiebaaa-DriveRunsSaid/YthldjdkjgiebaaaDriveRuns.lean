/-
  The walk of DriveRuns. By an AI agent.
-/
import Derived.Test.YthldjdkjgiebaaaDriveAwake
import Derived.Test.YthldjdkjgiebaaaDriveRef
import Derived.Test.YthldjdkjgiebaaaDriveWords
import Derived.Test.YthldjdkjgiebaaaArenaBlocks
import Derived.Deep.RegionHeld3
set_option linter.unusedSimpArgs false
set_option linter.unusedVariables false
namespace Go.Proofs.Ythldjdkjgiebaaa
open Go.RowKit Go.Maps
open Mm (Mem Blk)
open Ac (A)
set_option maxRecDepth 100000 in
set_option maxHeartbeats 4000000 in
/-- Out of range. -/
theorem druns_out (c : Int) (al ap : Option Addr) (n cl m cp : Nat) (w : World) (h : c < 1 ∨ 2000 < c) :
    Calls Try.prog 4 #[.int .i64 c, .slice al n cl, .slice ap m cp] w (Gives (.bool true) w) := by
  have KW : Hid (∀ w', Calls Try.prog 7 #[] w' (Gives (.bool true) w')) := Lib.hid fun w' => awake_any w'
  have KR : Hid (∀ v w', Calls Try.prog 11 #[.pointer none, .slice none 0 0, v] w' (Same (.slice none 0 0) w')) := Lib.hid fun v w' => drun_nil _ v w'
  have hb0 : Below w.heap.size w (w.alloc (.cells #[.int .i64 1] 3)) := (Below.refl _ w).alloc (Nat.le_refl _) _
  have HB0 := Lib.hid hb0; clear hb0
  by_cases h1 : c < 1
  · clear h
    go_enter Try.func4, Try.ntmps4
    go_wp2_with fail
    with_reducible refine (KR.out _ _).mono ?_
    rintro e w2 ⟨rfl, rfl⟩
    go_wp2_with fail
    with_reducible refine (KW.out _).mono ?_
    rintro e w3 ⟨rfl, hb3⟩
    go_wp2
    go_ret
    exact ⟨rfl, HB0.out.trans (hb3.mono HB0.out.size)⟩
  have h2 : 2000 < c := by omega
  clear h
  go_enter Try.func4, Try.ntmps4
  go_wp2_with fail
  with_reducible refine (KR.out _ _).mono ?_
  rintro e w2 ⟨rfl, rfl⟩
  go_wp2_with fail
  with_reducible refine (KW.out _).mono ?_
  rintro e w3 ⟨rfl, hb3⟩
  go_wp2
  go_ret
  exact ⟨rfl, HB0.out.trans (hb3.mono HB0.out.size)⟩
set_option maxRecDepth 100000 in
set_option maxHeartbeats 4000000 in
theorem rrun_zero {B : Nat} {w : World} {G0 : Nat → Prop} {xa : Nat} {S0 : Mem} (h : Rx B w xa S0 G0) (al ap : Option Addr) (cl m cp : Nat) (hm : m ≤ 1000) (N : Nat → Nat) (xs : Nat → Nat → A) (who : Nat → Nat) :
    Calls Try.prog 9 #[.pointer (some ⟨xa, 0, none⟩), .slice al 0 cl, .slice ap m cp] w (RRuns B w G0 xa (rn N xs who S0 0)) := by
  have hbz : Below w.heap.size w ((w.alloc (.cells #[] 44)).alloc (.cells (da (fun _ => 0) 0) 3)) := ((Below.refl _ w).alloc (Nat.le_refl _) _).alloc (by simp) _
  have J0 : Hid (RRuns B w G0 xa (rn N xs who S0 0) (.returned (.slice (some ⟨w.heap.size, 0, none⟩) 0 0)) ((w.alloc (.cells #[] 44)).alloc (.cells (da (fun _ => 0) 0) 3))) := Lib.hid (by
    refine ⟨_, rfl, ⟨rfl, .inr ⟨w.heap.size, 0, #[], rfl, Nat.le_refl _, ?_, Nat.le_refl _, by unfold maxLen; omega, rfl, rfl⟩⟩, G0, h.below hbz (Nat.le_refl _), Tn.of_below hbz⟩
    rw [Below.heap_alloc _ _ _ (by simp)]; exact World.alloc_heap_new w _)
  have mk : ∀ W : World, (Instr.makeSlice 40 (.int .i64 0) (.int .i64 0)).run Try.prog W = .ok (.slice (some ⟨W.heap.size, 0, none⟩) 0 0) (W.alloc (.cells (da (fun _ => 0) 0) 3)) := fun W => make_int 0 (by omega) W
  clear h hbz
  go_enter Try.func9, Try.ntmps9
  go_wp2
  refine wp_loop_rounds 1 ?_
  by_cases h0 : 0 < m
  · have h0Z : (0 : Int) < (m : Int) := by omega
    rw [rounds_succ]
    go_wp2
    go_ret
    exact J0.out
  · obtain rfl : m = 0 := by omega
    rw [rounds_succ]
    go_wp2
    go_ret
    exact J0.out
/-- What both runs come to. -/
def BothRan (B : Nat) (W : World) (p xa : Nat) (s : Ru) (v8 v9 : Value) (w9 : World) : Prop :=
  w9.ownsRow B 63 7 v8 s.ts.length (rows7 s.ts) ∧ w9.ownsRow B 44 7 v9 s.ts.length (rows7 s.ts) ∧ (∃ F', Ax B w9 p s.S F') ∧ (∃ G', Rx B w9 xa s.S G') ∧ Below B W w9
/-- A cell of what came in. -/
def Low (W : World) (B : Nat) (a : Option Addr) (i : Nat) (v : Value) : Prop := ∃ b off, a = some ⟨b, off, none⟩ ∧ b < B ∧ W.cell? ⟨b, off + i, none⟩ = some v
theorem Low.below {W W' : World} {B : Nat} {a : Option Addr} {i : Nat} {v : Value} (h : Low W B a i v) (hb : Below B W W') : Low W' B a i v := by
  obtain ⟨b, off, e, hlt, hc⟩ := h
  exact ⟨b, off, e, hlt, (hb.cell (p := ⟨b, off + i, none⟩) hlt).trans hc⟩
theorem Low.fix {W : World} {B : Nat} {a : Option Addr} {i : Nat} {v : Value} {F : Nat → Prop} (h : Low W B a i v) (hB : B ≤ W.heap.size) (hF : ∀ k, F k → B ≤ k) : Fix W F a i v := by
  obtain ⟨b, off, e, hlt, hc⟩ := h
  exact ⟨b, off, e, by omega, fun hf => by have := hF b hf; omega, hc⟩
theorem two_runs {B : Nat} {W : World} {p xa n nn : Nat} {q : Nat → Nat} {a : Nat → Option Addr} {N c : Nat → Nat} {F : Nat → Prop} {H : Nat → Nat → Prop} {G : Nat → Prop} (hms : Ms B W p (s0 nn) n q a N c (fun _ => []) F H) (hR : Rx B W xa (s0 nn) G) (hG : ∀ k, G k → k = xa) (hxa : ¬ Tot n F H xa) (hB : B ≤ W.heap.size) (hn : n ≤ 1000) (hnn1 : 1 ≤ nn) (hnn2 : nn ≤ 65536)
    (xs : Nat → Nat → A) (hx : ∀ w1, Below B W w1 → ∀ i, i < n → ∀ j, j < N i → ActAt (a i) w1 j (xs i j)) (hfit : ∀ i, i < n → ∀ j, j < N i → Fits (xs i j))
    (ar : Option Addr) (cr : Nat) (hr : ∀ i, i < n → Fix W (Tot n F H) ar i (rv (q i))) (al : Option Addr) (cl : Nat) (hl : ∀ i, i < n → Low W B al i (.slice (a i) (N i) (c i)))
    (ap : Option Addr) (m cp : Nat) (hm : m ≤ 1000) (ps : Nat → Int) (hp : ∀ i, i < m → Low W B ap i (.int .i64 (ps i))) :
    ∃ s : Ru, s.ts.length ≤ 1000 ∧ Mid s.S 1000 ∧ Calls Try.prog 11 #[.pointer (some ⟨p, 0, none⟩), .slice ar n cr, .slice ap m cp] W fun e w8 => ∃ v8, e = .returned v8 ∧ w8.cell? ⟨xa, 1, none⟩ = some (.int .i64 0) ∧
      Calls Try.prog 9 #[.pointer (some ⟨xa, 0, none⟩), .slice al n cl, .slice ap m cp] w8 fun e w9 => ∃ v9, e = .returned v9 ∧ BothRan B W p xa s v8 v9 w9 := by
  have hS := mid_new hnn1 hnn2
  have hxB : B ≤ xa ∧ xa < W.heap.size := by obtain ⟨v, g, r, rfl⟩ := hR; exact ⟨r.xB, r.lt⟩
  by_cases h0 : n = 0
  · subst h0
    refine ⟨rn N xs (fun _ => 0) (s0 nn) 0, Nat.zero_le _, hS.mono (by omega), (drun_empty _ ar cr _ W).mono ?_⟩
    rintro e w8 ⟨rfl, rfl⟩
    refine ⟨_, rfl, by obtain ⟨v, g, r, rfl⟩ := hR; exact r.c1, (rrun_zero hR al ap cl m cp hm N xs (fun _ => 0)).mono ?_⟩
    rintro e w9 ⟨v9, rfl, hr9, G', hR9, ht9⟩
    obtain ⟨hA9, -⟩ := ht9.other hms.ar (fun k hk hg => hxa (by rw [← hG k hg]; exact .inl hk))
    exact ⟨v9, rfl, World.ownsRow_nil w9 B 63 7, own_mono hr9 hB, ⟨F, hA9⟩, ⟨G', hR9⟩, ht9.below (fun k hk => by have := hG k hk; omega) hB⟩
  · obtain ⟨who, hw⟩ : ∃ who : Nat → Nat, ∀ i, who i < n ∧ ps i % (n : Int) = (who i : Int) := by
      refine ⟨fun i => (ps i % (n : Int)).toNat, fun i => ?_⟩
      have h1 := Int.emod_nonneg (ps i) (by omega : (n : Int) ≠ 0)
      have h2 := Int.emod_lt_of_pos (ps i) (by omega : (0 : Int) < n)
      show (ps i % (n : Int)).toNat < n ∧ ps i % (n : Int) = ((ps i % (n : Int)).toNat : Int)
      constructor <;> omega
    have hmid := rn_mid (n := n) (m := m) (N := N) (xs := xs) (who := who) hS (by omega) (fun k hk => (hw k).1) hfit m (Nat.le_refl _)
    refine ⟨rn N xs who (s0 nn) m, by have := hmid.2.1; omega, hmid.1.mono hm, (drun_any hms hB (by omega) hn xs hx hfit hS ar cr hr ap m cp hm ps (fun i hi => (hp i hi).fix hB (fun k hk => (hms.foot hk).1)) who (fun i _ => hw i)).mono ?_⟩
    rintro e w8 ⟨v8, rfl, hr8, F', H', hms8, ht8⟩
    have hb8 : Below B W w8 := ht8.below (fun k hk => (hms.foot hk).1) hB
    have hR8 : Rx B w8 xa (s0 nn) G := hR.keep fun k hk => by have e := hG k hk; rw [e]; exact ht8.block xa hxB.2 hxa
    have hB8 : B ≤ w8.heap.size := Nat.le_trans hB hb8.size
    refine ⟨v8, rfl, by obtain ⟨v, g, r, rfl⟩ := hR8; exact r.c1, (rrun_any (a := a) (N := N) (c := c) hR8 hB8 (by omega) hn xs (fun w1 hw1 => hx w1 (hb8.trans hw1)) hfit hS al cl (fun i hi => ((hl i hi).below hb8).fix hB8 (fun k hk => (hR8.foot hk).1)) ap m cp hm ps (fun i hi => ((hp i hi).below hb8).fix hB8 (fun k hk => (hR8.foot hk).1)) who (fun i _ => hw i)).mono ?_⟩
    rintro e w9 ⟨v9, rfl, hr9, G', hR9, ht9⟩
    obtain ⟨hA9, -⟩ := ht9.other hms8.ar (fun k hk hg => by
      have e := hG k hg
      subst e
      rcases ht8.foot k (.inl hk) with e | e
      · exact hxa e
      · omega)
    refine ⟨v9, rfl, own_mono ⟨hr8.1, ?_⟩ hB, own_mono hr9 hB8, ⟨F', hA9⟩, ⟨G', hR9⟩, hb8.trans (ht9.below (fun k hk => (hR8.foot hk).1) hB8)⟩
    rcases hr8.2 with hn' | ⟨g, cap, cur, e, hb', hgg, rest⟩
    · exact .inl hn'
    · exact .inr ⟨g, cap, cur, e, hb', (ht9.block g (Array.getElem?_eq_some_iff.1 hgg).1 (fun e => by have := hR8.noalien e hgg; cases this)).trans hgg, rest⟩
theorem info_routine : (Try.prog.info? 57).map (fun i => (i.zero, i.size, i.bytes)) = some (some .nilIface, 1, 16) := by kernel_rfl
/-- Routines, made one behind the other. -/
def Making (w : World) (a : Nat → Option Addr) (N c : Nat → Nat) (k : Nat) (qs : Nat → Nat) (v : Value) (W : World) : Prop :=
  (∀ i, i < k → w.heap.size ≤ qs i ∧ W.heap[qs i]? = some (.cells #[.slice (a i) (N i) (c i), .slice none 0 0] 29 (0, 0))) ∧ (∀ i j, i < k → j < k → qs i = qs j → i = j) ∧ W.ownsRow w.heap.size 57 1 v k ((List.range k).map fun i => rv (qs i)) ∧ Below w.heap.size w W
theorem Making.next {w W W1 : World} {a : Nat → Option Addr} {N c : Nat → Nat} {k : Nat} {qs : Nat → Nat} {v v' : Value} {o : Obj} (h : Making w a N c k qs v W)
    (hown : W1.ownsRow w.heap.size 57 1 v' (k + 1) (((List.range k).map fun i => rv (qs i)) ++ [rv W.heap.size]))
    (hg : ((W.alloc (ro0 (a k) (N k) (c k))).alloc o).grownBy W1 v.ownBlock) : Making w a N c (k + 1) (upd qs k W.heap.size) v' W1 := by
  obtain ⟨h1, h2, hr, hb⟩ := h
  have hz : ((W.alloc (ro0 (a k) (N k) (c k))).alloc o).heap.size = W.heap.size + 2 := by simp
  have hkeep : ∀ (j : Nat) (cs : Array Value) (t : TypeId), W.heap[j]? = some (.cells cs t (0, 0)) → t ≠ 57 → W1.heap[j]? = W.heap[j]? := fun j cs t hj ht => by
    have hlt := (Array.getElem?_eq_some_iff.1 hj).1
    rw [hg.block j (by omega) (fun e => by
      obtain ⟨_, cs', e'⟩ := own_typed hr j e.symm
      rw [hj] at e'
      cases e'
      exact ht rfl), Below.heap_alloc _ _ _ (by simp; omega), Below.heap_alloc _ _ _ hlt]
  have hnew : W1.heap[W.heap.size]? = some (.cells #[.slice (a k) (N k) (c k), .slice none 0 0] 29 (0, 0)) := by
    rw [hg.block _ (by omega) (fun e => by have := (hr.lt _ e.symm).2; omega), Below.heap_alloc _ _ _ (by simp)]
    exact World.alloc_heap_new W _
  refine ⟨fun i hi => ?_, fun i j hi hj e => ?_, ?_, ?_⟩
  · by_cases e : i = k
    · subst e; rw [upd_same]; exact ⟨hb.size, hnew⟩
    · rw [upd_other _ _ e]
      obtain ⟨x1, x2⟩ := h1 i (by omega)
      exact ⟨x1, (hkeep _ _ 29 x2 (by decide)).trans x2⟩
  · have lt : ∀ i, i < k → qs i < W.heap.size := fun i hi => (Array.getElem?_eq_some_iff.1 (h1 i hi).2).1
    by_cases e1 : i = k
    · by_cases e2 : j = k
      · omega
      · subst e1
        rw [upd_same, upd_other _ _ e2] at e
        have := lt j (by omega); omega
    · by_cases e2 : j = k
      · subst e2
        rw [upd_same, upd_other _ _ e1] at e
        have := lt i (by omega); omega
      · rw [upd_other _ _ e1, upd_other _ _ e2] at e
        exact h2 i j (by omega) (by omega) e
  · have e : ((List.range (k + 1)).map fun i => rv (upd qs k W.heap.size i)) = ((List.range k).map fun i => rv (qs i)) ++ [rv W.heap.size] := by
      rw [List.range_succ, List.map_append]
      congr 1
      · apply List.map_congr_left
        intro i hi
        rw [upd_other _ _ (by have := List.mem_range.1 hi; omega)]
      · simp [upd_same]
    rw [e]
    exact hown
  · refine ⟨hg.os.trans hb.os, hg.tape.trans hb.tape, hg.output.trans hb.output, by have := hg.size; have := hb.size; omega, fun j hj => ?_⟩
    have := hb.size
    rw [hg.block j (by omega) (fun e => by have := (hr.lt _ e.symm).1; omega), Below.heap_alloc _ _ _ (by simp; omega), Below.heap_alloc _ _ _ (by omega)]
    exact hb.block j hj
theorem row_one {w : World} {B : Nat} {ty : TypeId} {v : Value} {n : Nat} {xs : List Value} (h : w.ownsRow B ty 1 v n xs) {i : Nat} (hi : i < n) : ∃ g c, v = .slice (some ⟨g, 0, none⟩) n c ∧ w.cell? ⟨g, i, none⟩ = xs[i]? ∧ ∃ cs, w.heap[g]? = some (.cells cs ty (0, 0)) := by
  rcases h.2 with ⟨_, h0⟩ | ⟨g, cap, cur, rfl, _, hg, hcap, _, hcs, ht⟩
  · omega
  · refine ⟨g, cap, rfl, ?_, cur, hg⟩
    rw [← ht, List.getElem?_take, if_pos (by omega)]
    simp [World.cell?, hg]
theorem words_us (ss : List Nat) (B1 B2 : Nat) (v1 v2 : Value) (w : World) (hl : ss.length ≤ 1000000) (h1 : w.ownsRow B1 35 1 v1 ss.length (us ss)) (h2 : w.ownsRow B2 35 1 v2 ss.length (us ss)) : Calls Try.prog 13 #[v1, v2] w (Gives (.bool true) w) := by
  have e : (ss.map fun n : Nat => (n : Int)).length = ss.length := by simp
  exact wl_same (ss.map fun n : Nat => (n : Int)) B1 B2 v1 v2 w (by rw [e]; exact hl) (Wl.of_row (by rw [e, ← us_ws]; exact h1)) (Wl.of_row (by rw [e, ← us_ws]; exact h2))
/-- The world in which both runs begin. -/
abbrev wy (w6 : World) (nn : Nat) : World := (w6.alloc (.cells #[.int .i64 (nn : Int), .int .i64 0, .int .u64 0, .slice none 0 0] 38)).drew
theorem runs_setup {w wr w6 : World} {a : Nat → Option Addr} {N c : Nat → Nat} {n nn p : Nat} {qs : Nat → Nat} {v : Value} {F : Nat → Prop} (hJ : Making w a N c n qs v wr) (hA : Ax wr.heap.size w6 p (s0 nn) F) (hb : Below wr.heap.size wr w6) (hn : n ≤ 1000) (h1 : 1 ≤ nn) (h2 : nn ≤ 65536)
    (xs : Nat → Nat → A) (al ap : Option Addr) (cl m cp : Nat) (hm : m ≤ 1000) (ps : Nat → Int) (hl : ∀ i, i < n → Low w w.heap.size al i (.slice (a i) (N i) (c i))) (hx : ∀ i, i < n → ∀ j, j < N i → ∀ w1, Below w.heap.size w w1 → ActAt (a i) w1 j (xs i j)) (hfit : ∀ i, i < n → ∀ j, j < N i → Fits (xs i j)) (hp : ∀ i, i < m → Low w w.heap.size ap i (.int .i64 (ps i))) :
    Below w.heap.size w (wy w6 nn) ∧ (wy w6 nn).cell? ⟨w6.heap.size, 1, none⟩ = some (.int .i64 0) ∧ ∃ ar cr, v = .slice ar n cr ∧ ∃ s : Ru, s.ts.length ≤ 1000 ∧ Mid s.S 1000 ∧ Calls Try.prog 11 #[.pointer (some ⟨p, 0, none⟩), .slice ar n cr, .slice ap m cp] (wy w6 nn) fun e w8 => ∃ v8, e = .returned v8 ∧ w8.cell? ⟨w6.heap.size, 1, none⟩ = some (.int .i64 0) ∧
      Calls Try.prog 9 #[.pointer (some ⟨w6.heap.size, 0, none⟩), .slice al n cl, .slice ap m cp] w8 fun e w9 => ∃ v9, e = .returned v9 ∧ BothRan w.heap.size (wy w6 nn) p w6.heap.size s v8 v9 w9 := by
  obtain ⟨hq, hinj, hrow, hbw⟩ := hJ
  obtain ⟨ar, cr, rfl⟩ := row_slice hrow
  have s6 := hb.size
  have sw := hbw.size
  have hb67 : Below w6.heap.size w6 (wy w6 nn) := ((Below.refl _ w6).alloc (Nat.le_refl _) _).drew
  have hbr7 : Below wr.heap.size wr (wy w6 nn) := hb.trans (hb67.mono s6)
  have hbW : Below w.heap.size w (wy w6 nn) := hbw.trans (hbr7.mono sw)
  have s7 : (wy w6 nn).heap.size = w6.heap.size + 1 := by simp [World.drew]
  obtain ⟨G, hR, hG⟩ := rx_new (B := w.heap.size) nn h1 h2 w6 (by omega)
  have hR7 : Rx w.heap.size (wy w6 nn) w6.heap.size (s0 nn) G := hR.below (Below.refl _ _).drew (Nat.le_refl _)
  have hqlt : ∀ i, i < n → qs i < wr.heap.size := fun i hi => (Array.getElem?_eq_some_iff.1 (hq i hi).2).1
  have hms : Ms w.heap.size (wy w6 nn) p (s0 nn) n qs a N c (fun _ => []) F (fun i => Hp (qs i) none) :=
    ms_new (w := w6) ((hA.below hb67 (Nat.le_refl _)).mono (by omega)) (fun i hi => (hq i hi).1) (fun i hi hf => by have := (hA.foot hf).1; have := hqlt i hi; omega) hinj (fun i hi => (hbr7.block _ (hqlt i hi)).trans (hq i hi).2)
  have hxa : ¬ Tot n F (fun i => Hp (qs i) none) w6.heap.size := fun e => by
    rcases e with e | ⟨i, hi, e⟩
    · have := (hA.foot e).2; omega
    · have := hp_none e; have := hqlt i hi; omega
  have hrow7 := (KeepsAlien.below hbr7).row hrow (fun _ => rfl)
  have hc0 : (wy w6 nn).cell? ⟨w6.heap.size, 1, none⟩ = some (.int .i64 0) := by obtain ⟨v, g, r, rfl⟩ := hR7; exact r.c1
  refine ⟨hbW, hc0, ar, cr, rfl, ?_⟩
  refine two_runs hms hR7 hG hxa (by omega) hn h1 h2 xs (fun w1 hb1 i hi j hj => hx i hi j hj w1 (hbW.trans hb1)) hfit ar cr (fun i hi => ?_) al cl (fun i hi => (hl i hi).below hbW) ap m cp hm ps (fun i hi => (hp i hi).below hbW)
  obtain ⟨g, cg, eg, hgc, cs, hgg⟩ := row_one hrow7 hi
  injection eg with eg
  subst eg
  refine ⟨g, 0, rfl, (Array.getElem?_eq_some_iff.1 hgg).1, (fun e => by have h9 := hms.noalien e hgg; cases h9), ?_⟩
  rw [Nat.zero_add, hgc]
  simp [hi]
set_option maxRecDepth 100000 in
set_option maxHeartbeats 8000000 in
/-- ████ DriveRuns. ████ -/
theorem druns_any (nn : Nat) (h1 : 1 ≤ nn) (h2 : nn ≤ 2000) (al ap : Option Addr) (n cl m cp : Nat) (a : Nat → Option Addr) (N c : Nat → Nat) (xs : Nat → Nat → A) (ps : Nat → Int) (w : World) (hn : n ≤ maxLen) (hm : m ≤ maxLen)
    (hl : ∀ i, i < n → Low w w.heap.size al i (.slice (a i) (N i) (c i))) (hx : ∀ i, i < n → ∀ j, j < N i → ∀ w1, Below w.heap.size w w1 → ActAt (a i) w1 j (xs i j)) (hfit : ∀ i, i < n → ∀ j, j < N i → Fits (xs i j)) (hp : ∀ i, i < m → Low w w.heap.size ap i (.int .i64 (ps i))) :
    Calls Try.prog 4 #[.int .i64 (nn : Int), .slice al n cl, .slice ap m cp] w (Gives (.bool true) w) := by
  obtain ⟨i0, hi, hz0, hz1, hz2⟩ := info_parts info_routine
  have Hz0 := Lib.hid hz0; clear hz0
  have Hz1 := Lib.hid hz1; clear hz1
  have Hz2 := Lib.hid hz2; clear hz2
  have Hi := Lib.hid hi; clear hi
  have KW : Hid (∀ w', Calls Try.prog 7 #[] w' (Gives (.bool true) w')) := Lib.hid fun w' => awake_any w'
  have KN : Hid (∀ w', Calls Try.prog 8 #[.int .i64 (nn : Int)] w' (Made nn w')) := Lib.hid fun w' => made_new nn h1 (by omega) w'
  have KR : Hid (∀ v w', Calls Try.prog 11 #[.pointer none, .slice none 0 0, v] w' (Same (.slice none 0 0) w')) := Lib.hid fun v w' => drun_nil _ v w'
  have KF := Lib.hid (few_any al ap n cl m cp hn hm a N c w (fun i hi => by obtain ⟨b, off, e, _, hc⟩ := hl i hi; exact ⟨b, off, e, hc⟩))
  have HL := Lib.hid hl; clear hl
  have HX := Lib.hid hx; clear hx
  have HFIT := Lib.hid hfit; clear hfit
  have HP := Lib.hid hp; clear hp
  clear hn hm
  have d1 : decide ((nn : Int) < 1) = false := by simp; omega
  have d2 : decide ((2000 : Int) < (nn : Int)) = false := by simp; omega
  go_enter Try.func4, Try.ntmps4
  go_wp2_with fail
  with_reducible refine KF.out.mono ?_
  rintro e w1 ⟨b, rfl, rfl, hfew⟩
  cases b with
  | false =>
    clear hfew
    have hb0 : Below w.heap.size w (w.alloc (.cells #[.int .i64 1] 3)) := (Below.refl _ w).alloc (Nat.le_refl _) _
    have HB0 := Lib.hid hb0; clear hb0
    go_wp2_with fail
    with_reducible refine (KR.out _ _).mono ?_
    rintro e w2 ⟨rfl, rfl⟩
    go_wp2_with fail
    with_reducible refine (KW.out _).mono ?_
    rintro e w3 ⟨rfl, hb3⟩
    go_wp2
    go_ret
    exact ⟨rfl, HB0.out.trans (hb3.mono HB0.out.size)⟩
  | true =>
    obtain ⟨hn8, hm120⟩ := hfew rfl
    clear hfew KR KF
    have J0 : Hid (Making w a N c 0 (fun _ => 0) (.slice (some ⟨w.heap.size, 0, none⟩) 0 0) (w.alloc (.cells #[] 57))) := Lib.hid ⟨fun i hi => by omega, fun i j hi => by omega, ⟨rfl, .inr ⟨w.heap.size, 0, #[], rfl, Nat.le_refl _, World.alloc_heap_new w _, Nat.le_refl _, by unfold maxLen; omega, rfl, rfl⟩⟩, (Below.refl _ w).alloc (Nat.le_refl _) _⟩
    go_wp2
    go_loopw [7, 8] (fun v i wr => ∃ (k : Nat) (qs : Nat → Nat), k ≤ n ∧ i = .int .i64 k ∧ Hid (Making w a N c k qs v wr)) (fun _ i _ => n - (intOf i).toNat)
    case atStart => exact ⟨0, _, by omega, rfl, J0⟩
    case round =>
      obtain ⟨k, qs, hk, rfl, HJ⟩ := hrel
      clear J0
      by_cases hlt : k < n
      · have hbw : Below w.heap.size w wr := HJ.out.2.2.2
        obtain ⟨bl, ol, rfl, _, lc⟩ := (HL.out k hlt).below hbw
        have hltZ : (k : Int) < (n : Int) := by omega
        have hs := hbw.size
        have HRow := Lib.hid HJ.out.2.2.1
        obtain ⟨W1, hW1⟩ : ∃ W1, W1 = wr.alloc (ro0 (a k) (N k) (c k)) := ⟨_, rfl⟩
        have HC1 : Hid (∀ i u, [rv wr.heap.size][i]? = some u → ((wr.alloc (ro0 (a k) (N k) (c k))).alloc (.cells #[rv wr.heap.size] 57)).cell? ((⟨wr.heap.size + 1, 0, none⟩ : Addr).add i) = some u) := Lib.hid (by
          have := cell_one_new (wr.alloc (ro0 (a k) (N k) (c k))) (rv wr.heap.size) 57
          rwa [World.size_alloc] at this)
        clear hbw
        go_wp2_with (at_builtin; refine wpList_append_own_at _ rfl _ _ 49 rfl w.heap.size 57 i0 .nilIface 1 16 Try.underlying49 Hi.out Hz0.out Hz1.out Hz2.out rfl (by decide) _ _ _ rfl ((HRow.out.alloc _).alloc _) ⟨wr.heap.size + 1, 0, none⟩ 1 1 [rv wr.heap.size] rfl rfl HC1.out (by simp [Value.oneCell']) (by unfold maxLen; omega) (by omega) (by simp; omega) ?_; intro v' w3 hown' hgrow _ hat; have hJ2 := HJ.out.next hown' hgrow; have HJ2 := Lib.hid hJ2; clear hJ2 hown' hgrow hat)
        go_wp2
        go_roundw
        all_goals first | exact ⟨k + 1, _, by omega, by go_num, HJ2⟩ | (simp [intOf]; omega)
      · obtain rfl : k = n := by omega
        go_wp2_with fail
        with_reducible refine (KN.out _).mono ?_
        rintro e w6 ⟨p, rfl, hp6, F, hA6, hb6⟩
        go_wp2_with fail
        obtain ⟨hbW, hx0, ar, cr, rfl, s, hts, hmid, hK⟩ := runs_setup HJ.out hA6 hb6 (by omega) h1 (by omega) xs al ap cl m cp (by omega) ps HL.out HX.out HFIT.out HP.out
        have KRR := Lib.hid hK
        have HBW := Lib.hid hbW
        clear hK hbW hx0 hA6 hb6 hp6 HJ HL HX HFIT HP
        obtain ⟨x, hx⟩ : ∃ x, x = w6.heap.size := ⟨_, rfl⟩
        rw [← hx] at KRR ⊢
        obtain ⟨W7, hW7⟩ : ∃ W7, W7 = w6.alloc (.cells #[.int .i64 (nn : Int), .int .i64 0, .int .u64 0, .slice none 0 0] 38) := ⟨_, rfl⟩
        unfold wy at KRR HBW
        rw [← hW7] at KRR HBW ⊢
        clear hx hW7
        have hlast : s.S.last ≤ 1000000000000 := by have := hmid.last; omega
        have hll : ((nos s.S.L).map (fun n : Nat => (n : Int))).length ≤ 1000000 := by have := nos_len hmid.good; simp; omega
        have HG := Lib.hid hmid.good
        have hll2 : (nos s.S.L).length ≤ 1000000 := by have := nos_len hmid.good; omega
        go_region_with
          (first
            | (go_at_call 11; (with_reducible refine KRR.out.mono ?_); rintro e w8 ⟨v8, rfl, hx8, hK9⟩; have K9 := Lib.hid hK9; clear hx8 hK9)
            | (go_at_call 9; (with_reducible refine K9.out.mono ?_); rintro e w9 ⟨v9, rfl, hr8, hr9, hA9, hR9, hb9⟩; have HR8 := Lib.hid hr8; have HR9 := Lib.hid hr9; have HA9 := Lib.hid hA9; have HRX9 := Lib.hid hR9; have HB9 := Lib.hid hb9; clear hr8 hr9 hA9 hR9 hb9;
                have FCZ : Hid (∀ w', Below w9.heap.size w9 w' → w'.cell? ⟨x, 1, none⟩ = some (.int .i64 (s.S.faults : Int))) := Lib.hid (fun w' hb => by obtain ⟨G, hr⟩ := HRX9.out; obtain ⟨u, g, r, rfl⟩ := hr.below hb (Nat.le_refl _); exact r.c1);
                have B := Lib.hid (Below.refl w9.heap.size w9))
            | (go_at_call 12; (with_reducible refine (same_any s.ts hts w.heap.size w.heap.size _ _ _ HR8.out HR9.out).mono ?_); rintro e wS ⟨rfl, hb⟩; have B := Lib.hid (B.out.trans (hb.mono B.out.size)); clear hb;
                have T6 : Hid (∀ w', Below w9.heap.size w9 w' → Calls Try.prog 14 #[.pointer (some ⟨p, 0, none⟩)] w' (Lists (fun ts => ts = nos s.S.L) w')) := Lib.hid (fun w' hb => by obtain ⟨F, hA⟩ := HA9.out; exact blocks_any (hA.below hb (Nat.le_refl _)) hlast);
                have T7 : Hid (∀ w', Below w9.heap.size w9 w' → Calls Try.prog 15 #[.pointer (some ⟨x, 0, none⟩)] w' (Row8 (nos s.S.L) w')) := Lib.hid (fun w' hb => by obtain ⟨F, hA⟩ := HRX9.out; exact rblocks_any (hA.below hb (Nat.le_refl _)));
                have T3 : Hid (∀ w', Below w9.heap.size w9 w' → Calls Try.prog 16 #[.pointer (some ⟨p, 0, none⟩)] w' (Same (.int .i64 (s.S.faults : Int)) w')) := Lib.hid (fun w' hb => by obtain ⟨F, hA⟩ := HA9.out; exact faults_any (hA.below hb (Nat.le_refl _))))
            | (go_at_call 14; (with_reducible refine (T6.out _ B.out).mono ?_); rintro e wA ⟨vA, tA, rfl, hA1, hA2, -, hb⟩; rw [hA1] at hA2; have RA := Lib.hid hA2; have B := Lib.hid (B.out.trans (hb.mono B.out.size)); clear hb hA2 hA1)
            | (go_at_call 15; (with_reducible refine (T7.out _ B.out).mono ?_); rintro e wB ⟨vB, rfl, hB2, hb⟩; have RA := Lib.hid (own_keep RA.out (fun k hk => hb.block k (RA.out.lt k hk).2)); have RB := Lib.hid hB2; have B := Lib.hid (B.out.trans (hb.mono B.out.size)); clear hb hB2)
            | (go_at_call 13; (with_reducible refine (words_us (nos s.S.L) _ _ _ _ _ hll2 RA.out RB.out).mono ?_); rintro e wW ⟨rfl, hb⟩; have B := Lib.hid (B.out.trans (hb.mono B.out.size)); clear hb; have hfc := FCZ.out _ B.out)
            | (go_at_call 16; (with_reducible refine (T3.out _ B.out).mono ?_); rintro e w' ⟨rfl, rfl⟩)
            | (go_at_call 7; (with_reducible refine (KW.out _).mono ?_); rintro e wZ ⟨rfl, hb⟩; have B := Lib.hid (B.out.trans (hb.mono B.out.size)); clear hb)
            | fail)
        all_goals have HF := Lib.hid ((HBW.out.trans HB9.out).trans (B.out.mono (HBW.out.trans HB9.out).size))
        all_goals go_wp2
        all_goals go_ret
        all_goals exact ⟨rfl, HF.out⟩
end Go.Proofs.Ythldjdkjgiebaaa
