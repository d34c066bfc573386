/-
  The walk of lane.First: a loop over the places in each round of a loop over the numbers. By an AI agent.
-/
import Derived.Test.YtjfajnnbmlhpdaaLaneLoops
namespace Go.Proofs.Ytjfajnnbmlhpdaa
open Go.RowKit Go.Shelf
attribute [local go_sem] Oper.semAt_some
/-- The mark that a loop over a function leaves among the deferred calls. -/
def mark (D : Nat) : Deferred := { target := .collected D, args := #[] }
/-- The marks' blocks: unlike ones, from B on, and none of them holds a deferred call. -/
def Marks (B : Nat) (W : World) (l : List Nat) : Prop := l.Nodup ∧ ∀ D ∈ l, B ≤ D ∧ W.heap[D]? = some (.deferred (some []))
theorem Marks.nil (B : Nat) (W : World) : Marks B W [] := ⟨List.nodup_nil, fun _ h => by cases h⟩
theorem Marks.keep {B : Nat} {W W' : World} {l : List Nat} (h : Marks B W l) (hk : KeepsFrom 0 W W') : Marks B W' l :=
  ⟨h.1, fun D hD => ⟨(h.2 D hD).1, hk.same D _ (Nat.zero_le _) (h.2 D hD).2 rfl⟩⟩
theorem Marks.lt {B : Nat} {W : World} {l : List Nat} (h : Marks B W l) : ∀ D ∈ l, D < W.heap.size := fun D hD => (Array.getElem?_eq_some_iff.1 (h.2 D hD).2).1
theorem Marks.cons {B D : Nat} {W W0 : World} {l : List Nat} (h : Marks B W0 l) (hk : KeepsFrom 0 W0 W) (hB : B ≤ W0.heap.size) (hD : W0.heap.size ≤ D) (hd : W.heap[D]? = some (.deferred (some []))) : Marks B W (D :: l) := by
  refine ⟨List.nodup_cons.2 ⟨fun hm => ?_, h.1⟩, fun E hE => ?_⟩
  · have := h.lt D hm; omega
  · rcases List.mem_cons.1 hE with rfl | hE
    · exact ⟨by omega, hd⟩
    · exact (h.keep hk).2 E hE
theorem leaves_marks {n B : Nat} {P : Program} {fn : Func} {tmps : Array Value} {R : Ending → World → Prop} : ∀ (l : List Nat) (W : World), Marks B W l →
    (∀ W', Below B W W' → ∃ v, (results fn tmps).run P W' = .ok v W' ∧ R (.returned v) W') → LeavesInM Fence.wide n P fn tmps R (l.map mark) .returning W
  | [], W, _, hR => hR W (Below.refl _ _)
  | D :: l, W, hm, hR => by
    obtain ⟨hB, hd⟩ := hm.2 D (by simp)
    have hlt := (Array.getElem?_eq_some_iff.1 hd).1
    have hne := (List.nodup_cons.1 hm.1).1
    have hbel : Below B W (W.putObj D (.deferred none)) := (Below.refl _ _).grown (grownBy_putObj' W D _) (by omega) (fun k e => by cases e; exact hB)
    refine ⟨by simp, .inl ⟨D, _, rfl, run_takeDeferred hd, leaves_marks l _ ⟨(List.nodup_cons.1 hm.1).2, fun E hE => ?_⟩ (fun W' h => hR W' (hbel.trans h))⟩⟩
    have := hm.2 E (by simp [hE])
    exact ⟨this.1, (World.putObj_heap_other (fun e => hne (by subst e; exact hE))).trans this.2⟩
/-- What holds ahead of each round. -/
def AtHead (x a : Int) (bs : List Int) (A : Option Addr) (c : Nat) (w : World) (a' : Act) (W : World) : Prop :=
  ∃ (k : Nat) (l : List Nat) (u9 u14 u15 u16 u17 u18 u19 u27 : Value), a' = { tmps := #[.int .u64 x, .int .i64 a, .slice A bs.length c, undef, .pointer (some ⟨w.heap.size, 0, none⟩), undef, .int .i64 0, .pointer (some ⟨w.heap.size + 1, 0, none⟩), undef, u9, undef, .slice A bs.length c, .int .i64 bs.length, .int .i64 k, u14, u15, u16, u17, u18, u19, undef, undef, undef, undef, undef, undef, undef, u27, undef], defers := l.map mark } ∧
    k ≤ bs.length ∧ Marks w.heap.size W l ∧ (Boxed W w.heap.size 3 (.int .i64 a) ∧ Boxed W (w.heap.size + 1) 3 (.int .i64 (Ln.fst x a (bs.take k)))) ∧ Below w.heap.size w W
theorem fst_take {x a : Int} {bs : List Int} {k : Nat} (h : k < bs.length) : Ln.fst x a (bs.take (k + 1)) = min (Ln.fst x a (bs.take k)) (Ln.f1 x a bs[k]) := by
  rw [List.take_succ_eq_append_getElem h, Ln.fst_snoc]
theorem fst_take_none {x a : Int} {bs : List Int} {k : Nat} (h : k < bs.length) (hn : ∀ j ∈ Ln.plc x bs[k], (j : Int) < a) : Ln.fst x a (bs.take (k + 1)) = Ln.fst x a (bs.take k) := by
  rw [fst_take h, Ln.f1_none hn]
  have := (Ln.fst_bd x a (bs.take k)).2
  omega
theorem fst_take_some {x a : Int} {bs : List Int} {k y : Nat} {u : List Nat} (h : k < bs.length) (hp : List.IsPrefix (u ++ [y]) (Ln.plc x bs[k])) (hu : ∀ j ∈ u, (j : Int) < a) (hy : a ≤ (y : Int)) : Ln.fst x a (bs.take (k + 1)) = min (Ln.fst x a (bs.take k)) (y : Int) := by
  rw [fst_take h, Ln.f1_some hp hu hy]
/-- A round has left: its place is the first from a on. -/
def Found (a : Int) (c : Code) (pre : List Nat) : Prop := c = .exit 2 ∧ ∃ (u : List Nat) (y : Nat), pre = u ++ [y] ∧ (∀ j ∈ u, (j : Int) < a) ∧ a ≤ (y : Int)
def lastI (pre : List Nat) : Int := ((pre.getLastD 0 : Nat) : Int)
set_option maxRecDepth 100000 in
set_option maxHeartbeats 4000000 in
theorem first_in (n : Nat) (hn : 5 ≤ n) (x a : Int) (bs : List Int) (A : Option Addr) (c : Nat) (hx0 : 0 ≤ x) (hx1 : x ≤ 18446744073709551615) (hl : bs.length ≤ 9223372036854775807) (w : World) (hs : Sl w w.heap.size A bs) :
    CallsIn Fence.wide n Try.prog 11 #[.int .u64 x, .int .i64 a, .slice A bs.length c] w (GivesInt (Ln.fst x a bs) w) := by
  have h1 : 1 ≤ n := by omega
  have hf : Fence.wide.fn 24 := trivial
  refine callsIn_of_wp_marks Try.func11 rfl trivial ?_ rfl
  simp only [Try.ntmps11, List.size_toArray, List.length_cons, List.length_nil, Nat.reduceAdd, Nat.reduceSub, Array.replicate_succ, Array.replicate_zero, List.push_toArray, List.append_toArray, List.nil_append, List.cons_append]
  gi_wp2
  refine wpIn_loop (AtHead x a bs A c w) (fun a' _ => bs.length - (intOf (a'.tmps.getD 13 undef)).toNat) ?_ ?_
  · have b0 := Boxed.new w 3 (.int .i64 a)
    have b1 := Boxed.new (w.alloc (.cells #[.int .i64 a] 3)) 3 (.int .i64 8)
    simp only [World.size_alloc] at b1
    exact ⟨0, [], _, _, _, _, _, _, _, _, rfl, Nat.zero_le _, Marks.nil _ _, ⟨b0.alloc _, b1⟩, ((Below.refl _ w).alloc (Nat.le_refl _) _).alloc (by simp) _⟩
  · rintro a' wr ⟨k, l, u9, u14, u15, u16, u17, u18, u19, u27, rfl, hk, hm, ⟨v0, v1⟩, hB⟩
    have b1' := v1.lt
    by_cases hlt : k < bs.length
    · rcases hs.below hB with rfl | ⟨bb, off, rfl, hb, hc⟩
      · simp at hlt
      have g1 := hc k hlt
      clear hc
      gi_wp2_with (gi_at_call 24; refine (places_call (n - 1) _ _ _).mono ?_; rintro e w' ⟨rfl, rfl⟩)
      have b2 := Boxed.new wr 22 (.int .u64 x)
      have b3 := Boxed.new (wr.alloc (.cells #[.int .u64 x] 22)) 3 (.int .i64 bs[k])
      simp only [World.size_alloc] at b3
      have hB0 : Below w.heap.size w ((wr.alloc (.cells #[.int .u64 x] 22)).alloc (.cells #[.int .i64 bs[k]] 3)) := (hB.alloc hB.size _).alloc (by have := hB.size; simp; omega) _
      have hK0 : KeepsFrom 0 wr ((wr.alloc (.cells #[.int .u64 x] 22)).alloc (.cells #[.int .i64 bs[k]] 3)) := ((KeepsOthers.alloc _ _).from 0).trans ((KeepsOthers.alloc _ _).from 0)
      have hm0 := hm.keep hK0
      have w0 := (v0.alloc (.cells #[.int .u64 x] 22)).alloc (.cells #[.int .i64 bs[k]] 3)
      have w1 := (v1.alloc (.cells #[.int .u64 x] 22)).alloc (.cells #[.int .i64 bs[k]] 3)
      have hsz : ((wr.alloc (.cells #[.int .u64 x] 22)).alloc (.cells #[.int .i64 bs[k]] 3)).heap.size = wr.heap.size + 1 + 1 := by simp
      refine wpIn_rangeFunc_ownG rfl h1 (gf := 25) (lb := #[.pointer (some ⟨wr.heap.size, 0, none⟩), .pointer (some ⟨wr.heap.size + 1, 0, none⟩)]) rfl trivial (enters_of Try.func25 (by kernel_rfl) rfl)
        (places_stops (n - 1) (by omega) x bs[k] hx0 hx1 wr.heap.size (wr.heap.size + 1) _ (by simp; omega) (by simp) (b2.alloc _).cell b3.cell) Kp2.t (fun W l o o' _ h hc _ => Kp2.b W l o o' h hc) (Below.refl _ _) (fun _ => rfl)
        (fun pre W => ((∀ j ∈ pre, (j : Int) < a) ∧ (Boxed W w.heap.size 3 (.int .i64 a) ∧ Boxed W (w.heap.size + 1) 3 (.int .i64 (Ln.fst x a (bs.take k))))) ∧ (Below w.heap.size w W ∧ KeepsFrom 0 ((wr.alloc (.cells #[.int .u64 x] 22)).alloc (.cells #[.int .i64 bs[k]] 3)) W))
        (fun c pre W => (Found a c pre ∧ (Boxed W w.heap.size 3 (.int .i64 a) ∧ Boxed W (w.heap.size + 1) 3 (.int .i64 (min (Ln.fst x a (bs.take k)) (lastI pre))))) ∧ (Below w.heap.size w W ∧ KeepsFrom 0 ((wr.alloc (.cells #[.int .u64 x] 22)).alloc (.cells #[.int .i64 bs[k]] 3)) W))
        (OwnFrom.and (OwnFrom.and (ownFrom_pure _ (fun pre : List Nat => ∀ j ∈ pre, (j : Int) < a)) (OwnFrom.and (Own.from (boxed_own _ _ (fun _ : List Nat => .int .i64 a)) _) (Own.from (boxed_own _ _ (fun _ : List Nat => .int .i64 (Ln.fst x a (bs.take k)))) _))) (OwnFrom.and (ownFrom_below (Nat.le_refl _) (by have := hB.size; simp; omega)) (ownFrom_keepsFrom (Nat.le_refl _))))
        (fun c => OwnFrom.and (OwnFrom.and (ownFrom_pure _ (fun pre : List Nat => Found a c pre)) (OwnFrom.and (Own.from (boxed_own _ _ (fun _ : List Nat => .int .i64 a)) _) (Own.from (boxed_own _ _ (fun pre : List Nat => .int .i64 (min (Ln.fst x a (bs.take k)) (lastI pre)))) _))) (OwnFrom.and (ownFrom_below (Nat.le_refl _) (by have := hB.size; simp; omega)) (ownFrom_keepsFrom (Nat.le_refl _))))
        ⟨⟨by simp, w0, w1⟩, hB0, KeepsFrom.refl _ _⟩
        (fun y => { tmps := #[.int .u64 x, .int .i64 a, .slice (some ⟨bb, off, none⟩) bs.length c, undef, .pointer (some ⟨w.heap.size, 0, none⟩), undef, .int .i64 0, .pointer (some ⟨w.heap.size + 1, 0, none⟩), undef, .int .i64 bs[k], .int .i64 (y : Int), .slice (some ⟨bb, off, none⟩) bs.length c, .int .i64 bs.length, .int .i64 k, .bool true, .pointer (some ⟨bb, off + k, none⟩), .int .i64 bs[k], .int .u64 x, .int .i64 bs[k], (.func (.func 25) #[] #[.pointer (some ⟨wr.heap.size, 0, none⟩), .pointer (some ⟨wr.heap.size + 1, 0, none⟩)]), .int .i64 (y : Int), undef, undef, undef, undef, undef, undef, u27, undef], defers := [] }) ?assign ?body ?done ?stop
      case assign =>
        intro l k W K hK
        gi_wp2
        exact hK
      case body =>
        rintro l' pre y W ⟨⟨hp, t0, t1⟩, hBW, hKW⟩ hlt8
        have c0 := t0.cell
        have c1 := t1.cell
        have f1 := t1.frozen
        by_cases hy : a ≤ (y : Int)
        · have e1 : lastI (pre ++ [y]) = (y : Int) := by simp [lastI]
          have E1 := Lib.hid e1; clear e1
          gi_wp2
          all_goals
            refine ⟨(KeepsOthers.setCell _ _ _).from _, ⟨⟨rfl, pre, y, rfl, hp, hy⟩, t0.other (by omega) _, ?_⟩, hBW.setCell (p := ⟨w.heap.size + 1, 0, none⟩) (by simp) _, hKW.trans ((KeepsOthers.setCell _ _ _).from 0)⟩
            rw [E1.out]
            first | (rw [Int.min_eq_left (by omega)]; exact t1.set _) | (rw [Int.min_eq_right (by omega)]; exact t1.set _)
        · gi_wp2
          refine ⟨KeepsFrom.refl _ _, Kp2.refl _ _ _, ⟨fun j hj => ?_, t0, t1⟩, hBW, hKW⟩
          rcases List.mem_append.1 hj with h | h
          · exact hp j h
          · simp at h; subst h; omega
      case done =>
        rintro D ys W hD rfl ⟨⟨hp, t0, t1⟩, hBW, hKW⟩ hd
        have hm1 := hm0.cons hKW (by have := hB.size; omega) hD hd
        have hnx := fst_take_none hlt hp
        have Hnx := Lib.hid hnx; clear hnx
        gi_wp2
        exact ⟨⟨k + 1, D :: l, _, _, _, _, _, _, _, _, rfl, by omega, hm1, ⟨t0, by rw [Hnx.out]; exact t1⟩, hBW⟩, by simp [intOf]; omega⟩
      case stop =>
        rintro D c pre W hD hpre ⟨⟨hfd, t0, t1⟩, hBW, hKW⟩ hd
        obtain ⟨rfl, u, y, rfl, hu, hy⟩ := hfd
        have hm1 := hm0.cons hKW (by have := hB.size; omega) hD hd
        have hnx := fst_take_some hlt hpre hu hy
        have Hnx := Lib.hid hnx; clear hnx
        gi_wp2
        exact ⟨⟨k + 1, D :: l, _, _, _, _, _, _, _, _, rfl, by omega, hm1, ⟨t0, by rw [Hnx.out]; simpa [lastI] using t1⟩, hBW⟩, by simp [intOf]; omega⟩
    · obtain rfl : k = bs.length := by omega
      have hc := v1.cell
      gi_wp2
      refine leaves_marks l wr hm (fun W' h => ⟨_, results_tmp rfl _ _ _, ?_, hB.trans h⟩)
      exact ret_int (k := .i64) rfl
theorem first_any (x a : Int) (bs : List Int) (A : Option Addr) (c : Nat) (hx0 : 0 ≤ x) (hx1 : x ≤ 18446744073709551615) (hl : bs.length ≤ 9223372036854775807) (w : World) (hs : Sl w w.heap.size A bs) :
    Calls Try.prog 11 #[.int .u64 x, .int .i64 a, .slice A bs.length c] w (GivesInt (Ln.fst x a bs) w) :=
  (callsIn_wide (n := 9)).1 (first_in 9 (by omega) x a bs A c hx0 hx1 hl w hs)
end Go.Proofs.Ytjfajnnbmlhpdaa
