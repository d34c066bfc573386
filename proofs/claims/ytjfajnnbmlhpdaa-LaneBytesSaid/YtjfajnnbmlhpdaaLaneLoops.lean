/-
  The walks of lane.Count, lane.Fill, and of the statements' own two loops over the places. By an AI agent.
-/
import Derived.Test.YtjfajnnbmlhpdaaLaneIter
import Derived.Maps.OwnIn
namespace Go.Proofs.Ytjfajnnbmlhpdaa
open Go.RowKit Go.Shelf
attribute [local go_sem] Oper.semAt_some
set_option maxRecDepth 100000 in
set_option maxHeartbeats 2000000 in
theorem count_in (n : Nat) (hn : 4 ≤ n) (x b : Int) (hx0 : 0 ≤ x) (hx1 : x ≤ 18446744073709551615) (w : World) :
    CallsIn Fence.wide n Try.prog 16 #[.int .u64 x, .int .i64 b] w (GivesInt (Ln.plc x b).length w) := by
  have h1 : 1 ≤ n := by omega
  have hf : Fence.wide.fn 24 := trivial
  refine callsIn_of_wp_marks Try.func16 rfl trivial ?_ rfl
  simp only [Try.ntmps16, List.size_toArray, List.length_cons, List.length_nil, Nat.reduceAdd, Nat.reduceSub, Array.replicate_succ, Array.replicate_zero, List.push_toArray, List.append_toArray, List.nil_append, List.cons_append]
  gi_wp2_with (gi_at_call 24; refine (places_call (n - 1) _ _ _).mono ?_; rintro e w' ⟨rfl, rfl⟩)
  have b0 := Boxed.new w 3 (.int .i64 0)
  have b1 := Boxed.new (w.alloc (.cells #[.int .i64 0] 3)) 22 (.int .u64 x)
  have b2 := Boxed.new ((w.alloc (.cells #[.int .i64 0] 3)).alloc (.cells #[.int .u64 x] 22)) 3 (.int .i64 b)
  simp only [World.size_alloc] at b1 b2
  have hB0 : Below w.heap.size w (((w.alloc (.cells #[.int .i64 0] 3)).alloc (.cells #[.int .u64 x] 22)).alloc (.cells #[.int .i64 b] 3)) := (((Below.refl _ w).alloc (Nat.le_refl _) _).alloc (by simp) _).alloc (by simp; omega) _
  refine wpIn_rangeFunc_ownG rfl h1 (gf := 25) (lb := #[.pointer (some ⟨w.heap.size + 1, 0, none⟩), .pointer (some ⟨w.heap.size + 1 + 1, 0, none⟩)]) rfl trivial (enters_of Try.func25 (by kernel_rfl) rfl)
    (places_stops (n - 1) (by omega) x b hx0 hx1 (w.heap.size + 1) (w.heap.size + 1 + 1) _ (by simp) (by simp) (b1.alloc _).cell b2.cell) Kp2.t (fun W l o o' _ h hc _ => Kp2.b W l o o' h hc) (Below.refl _ _) (fun _ => rfl)
    (fun pre W => Boxed W w.heap.size 3 (.int .i64 (pre.length : Int)) ∧ Below w.heap.size w W)
    (fun _ _ _ => False)
    (OwnFrom.and (Own.from (boxed_own _ _ (fun pre : List Nat => .int .i64 (pre.length : Int))) _) (ownFrom_below (Nat.le_refl _) (by simp; omega)))
    (fun _ _ _ _ _ hs _ _ => hs)
    ⟨(b0.alloc _).alloc _, hB0⟩
    (fun k => { tmps := #[.int .u64 x, .int .i64 b, undef, undef, .int .i64 0, .pointer (some ⟨w.heap.size, 0, none⟩), .int .u64 x, .int .i64 b, .func (.func 25) #[] #[.pointer (some ⟨w.heap.size + 1, 0, none⟩), .pointer (some ⟨w.heap.size + 1 + 1, 0, none⟩)], .int .i64 (k : Int), undef, undef, undef], defers := [] }) ?assign ?body ?done ?stop
  case assign =>
    intro l k W K hK
    gi_wp2
    simpa using hK
  case body =>
    rintro l pre k W ⟨hv, hB⟩ hlt
    have hc := hv.cell
    have hf := hv.frozen
    gi_wp2
    exact ⟨(KeepsOthers.setCell _ _ _).from _, Kp2.set _ _ (by omega) (by omega), by have := hv.set (.int .i64 ((pre.length : Int) + 1)); simpa using this, hB.setCell (p := ⟨w.heap.size, 0, none⟩) (Nat.le_refl _) _⟩
  case done =>
    rintro D ys W hD rfl ⟨hv, hB⟩ hK
    have hc := hv.cell
    gi_wp2
    refine ⟨by simp, .inl ⟨_, _, rfl, run_takeDeferred hK, ?_⟩⟩
    exact ⟨_, results_tmp rfl _ _ _, rfl, hB.trans (belowK_b (w := w) (Nat.le_refl _) W D _ _ (by simp at hD; omega) hK rfl rfl)⟩
  case stop =>
    rintro D c pre W _ _ h _
    exact h.elim
theorem count_any (x b : Int) (hx0 : 0 ≤ x) (hx1 : x ≤ 18446744073709551615) (w : World) : Calls Try.prog 16 #[.int .u64 x, .int .i64 b] w (GivesInt (Ln.plc x b).length w) :=
  (callsIn_wide (n := 9)).1 (count_in 9 (by omega) x b hx0 hx1 w)
set_option maxRecDepth 100000 in
set_option maxHeartbeats 2000000 in
theorem fill_in (n : Nat) (hn : 5 ≤ n) (x a t : Int) (hx0 : 0 ≤ x) (hx1 : x ≤ 18446744073709551615) (w : World) :
    CallsIn Fence.wide n Try.prog 18 #[.int .u64 x, .int .i64 a, .int .i64 t] w (GivesWord (Ln.fil x a t) w) := by
  have h1 : 1 ≤ n := by omega
  have h2 : 1 ≤ n - 1 - 1 := by omega
  have hf : Fence.wide.fn 24 := trivial
  have hf8 : Fence.wide.fn 8 := trivial
  refine callsIn_of_wp_marks Try.func18 rfl trivial ?_ rfl
  simp only [Try.ntmps18, List.size_toArray, List.length_cons, List.length_nil, Nat.reduceAdd, Nat.reduceSub, Array.replicate_succ, Array.replicate_zero, List.push_toArray, List.append_toArray, List.nil_append, List.cons_append]
  gi_wp2_with (gi_at_call 24; refine (places_call (n - 1) _ _ _).mono ?_; rintro e w' ⟨rfl, rfl⟩)
  have b0 := Boxed.new w 3 (.int .i64 t)
  have b1 := Boxed.new (w.alloc (.cells #[.int .i64 t] 3)) 22 (.int .u64 x)
  have b2 := Boxed.new ((w.alloc (.cells #[.int .i64 t] 3)).alloc (.cells #[.int .u64 x] 22)) 22 (.int .u64 x)
  have b3 := Boxed.new (((w.alloc (.cells #[.int .i64 t] 3)).alloc (.cells #[.int .u64 x] 22)).alloc (.cells #[.int .u64 x] 22)) 3 (.int .i64 a)
  simp only [World.size_alloc] at b1 b2 b3
  have hB0 : Below w.heap.size w ((((w.alloc (.cells #[.int .i64 t] 3)).alloc (.cells #[.int .u64 x] 22)).alloc (.cells #[.int .u64 x] 22)).alloc (.cells #[.int .i64 a] 3)) := ((((Below.refl _ w).alloc (Nat.le_refl _) _).alloc (by simp) _).alloc (by simp; omega) _).alloc (by simp; omega) _
  refine wpIn_rangeFunc_ownG rfl h1 (gf := 25) (lb := #[.pointer (some ⟨w.heap.size + 1 + 1, 0, none⟩), .pointer (some ⟨w.heap.size + 1 + 1 + 1, 0, none⟩)]) rfl trivial (enters_of Try.func25 (by kernel_rfl) rfl)
    (places_stops (n - 1) (by omega) x a hx0 hx1 (w.heap.size + 1 + 1) (w.heap.size + 1 + 1 + 1) _ (by simp) (by simp) (b2.alloc _).cell b3.cell) Kp2.t (fun W l o o' _ h hc _ => Kp2.b W l o o' h hc) (Below.refl _ _) (fun _ => rfl)
    (fun pre W => (Boxed W w.heap.size 3 (.int .i64 t) ∧ Boxed W (w.heap.size + 1) 22 (.int .u64 (Ln.filL t x pre))) ∧ Below w.heap.size w W)
    (fun _ _ _ => False)
    (OwnFrom.and (OwnFrom.and (Own.from (boxed_own _ _ (fun _ : List Nat => .int .i64 t)) _) (Own.from (boxed_own _ _ (fun pre : List Nat => .int .u64 (Ln.filL t x pre))) _)) (ownFrom_below (Nat.le_refl _) (by simp; omega)))
    (fun _ _ _ _ _ hs _ _ => hs)
    ⟨⟨((b0.alloc _).alloc _).alloc _, (b1.alloc _).alloc _⟩, hB0⟩
    (fun k => { tmps := #[.int .u64 x, .int .i64 a, .int .i64 t, undef, undef, .pointer (some ⟨w.heap.size, 0, none⟩), .int .u64 0, .pointer (some ⟨w.heap.size + 1, 0, none⟩), .int .i64 (k : Int), .int .u64 x, .int .u64 x, .int .i64 a, .func (.func 25) #[] #[.pointer (some ⟨w.heap.size + 1 + 1, 0, none⟩), .pointer (some ⟨w.heap.size + 1 + 1 + 1, 0, none⟩)], .int .i64 (k : Int), undef, undef, undef, undef, undef], defers := [] }) ?assign ?body ?done ?stop
  case assign =>
    intro l k W K hK
    gi_wp2
    exact hK
  case body =>
    rintro l pre k W ⟨⟨ht, hv⟩, hB⟩ hlt
    have hct := ht.cell
    have hc := hv.cell
    have hfz := hv.frozen
    obtain ⟨f0, f1⟩ := Ln.filL_bd (x := x) t pre hx0 hx1
    gi_wp2_with (gi_at_call 8; refine (CallsIn.inRound l (callsIn_wide.2 (with_any _ _ _ _ f0 f1))).mono ?_; rintro e w' ⟨rfl, rfl⟩)
    exact ⟨(KeepsOthers.setCell _ _ _).from _, Kp2.set _ _ (by omega) (by omega), ⟨ht.other (by omega) _, by rw [Ln.filL_snoc]; exact hv.set _⟩, hB.setCell (p := ⟨w.heap.size + 1, 0, none⟩) (by simp) _⟩
  case done =>
    rintro D ys W hD rfl ⟨⟨ht, hv⟩, hB⟩ hK
    have hc := hv.cell
    gi_wp2
    refine ⟨by simp, .inl ⟨_, _, rfl, run_takeDeferred hK, ?_⟩⟩
    exact ⟨_, results_tmp rfl _ _ _, rfl, hB.trans (belowK_b (w := w) (Nat.le_refl _) W D _ _ (by simp at hD; omega) hK rfl rfl)⟩
  case stop =>
    rintro D c pre W _ _ h _
    exact h.elim
theorem fill_any (x a t : Int) (hx0 : 0 ≤ x) (hx1 : x ≤ 18446744073709551615) (w : World) : Calls Try.prog 18 #[.int .u64 x, .int .i64 a, .int .i64 t] w (GivesWord (Ln.fil x a t) w) :=
  (callsIn_wide (n := 9)).1 (fill_in 9 (by omega) x a t hx0 hx1 w)
theorem func_nil (f : Nat) (cap : Array Value) (w : World) : (binOp .eql 40 (.func (.func f) #[] cap) .nilFunc).run Try.prog w = .ok (.bool false) w := by
  first | rfl | kernel_rfl | simp [binOp, go_sem]
/-- The first of some places; -1, if there is none. -/
def headI : List Nat → Int
  | [] => -1
  | k :: _ => (k : Int)
theorem headI_of {k : Nat} {l : List Nat} (h : [k] <+: l) : headI l = (k : Int) := by obtain ⟨v, rfl⟩ := h; rfl
set_option maxRecDepth 100000 in
set_option maxHeartbeats 2000000 in
theorem lfirst_in (n : Nat) (hn : 5 ≤ n) (x b : Int) (hx0 : 0 ≤ x) (hx1 : x ≤ 18446744073709551615) (w : World) :
    CallsIn Fence.wide n Try.prog 15 #[.int .u64 x, .int .i64 b] w (GivesInt (headI (Ln.plc x b)) w) := by
  have h1 : 1 ≤ n := by omega
  have hf : Fence.wide.fn 24 := trivial
  have hnil := func_nil
  refine callsIn_of_wp_marks Try.func15 rfl trivial ?_ rfl
  simp only [Try.ntmps15, List.size_toArray, List.length_cons, List.length_nil, Nat.reduceAdd, Nat.reduceSub, Array.replicate_succ, Array.replicate_zero, List.push_toArray, List.append_toArray, List.nil_append, List.cons_append]
  gi_wp2_with (gi_at_call 24; refine (places_call (n - 1) _ _ _).mono ?_; rintro e w' ⟨rfl, rfl⟩)
  have b0 := Boxed.new w 3 (.int .i64 0)
  have b1 := Boxed.new (w.alloc (.cells #[.int .i64 0] 3)) 22 (.int .u64 x)
  have b2 := Boxed.new ((w.alloc (.cells #[.int .i64 0] 3)).alloc (.cells #[.int .u64 x] 22)) 3 (.int .i64 b)
  simp only [World.size_alloc] at b1 b2
  have hB0 : Below w.heap.size w (((w.alloc (.cells #[.int .i64 0] 3)).alloc (.cells #[.int .u64 x] 22)).alloc (.cells #[.int .i64 b] 3)) := (((Below.refl _ w).alloc (Nat.le_refl _) _).alloc (by simp) _).alloc (by simp; omega) _
  refine wpIn_rangeFunc_ownG rfl h1 (gf := 25) (lb := #[.pointer (some ⟨w.heap.size + 1, 0, none⟩), .pointer (some ⟨w.heap.size + 1 + 1, 0, none⟩)]) rfl trivial (enters_of Try.func25 (by kernel_rfl) rfl)
    (places_stops (n - 1) (by omega) x b hx0 hx1 (w.heap.size + 1) (w.heap.size + 1 + 1) _ (by simp) (by simp) (b1.alloc _).cell b2.cell) Kp2.t (fun W l o o' _ h hc _ => Kp2.b W l o o' h hc) (Below.refl _ _) (fun _ => rfl)
    (fun pre W => (pre = [] ∧ Boxed W w.heap.size 3 (.int .i64 0)) ∧ Below w.heap.size w W)
    (fun c pre W => ((c = .ret ∧ pre = [pre.headD 0]) ∧ Boxed W w.heap.size 3 (.int .i64 ((pre.headD 0 : Nat) : Int))) ∧ Below w.heap.size w W)
    (OwnFrom.and (OwnFrom.and (ownFrom_pure _ (fun pre : List Nat => pre = [])) (Own.from (boxed_own _ _ (fun _ : List Nat => .int .i64 0)) _)) (ownFrom_below (Nat.le_refl _) (by simp; omega)))
    (fun c => OwnFrom.and (OwnFrom.and (ownFrom_pure _ (fun pre : List Nat => c = .ret ∧ pre = [pre.headD 0])) (Own.from (boxed_own _ _ (fun pre : List Nat => .int .i64 ((pre.headD 0 : Nat) : Int))) _)) (ownFrom_below (Nat.le_refl _) (by simp; omega)))
    ⟨⟨rfl, (b0.alloc _).alloc _⟩, hB0⟩
    (fun k => { tmps := #[.int .u64 x, .int .i64 b, undef, undef, .pointer (some ⟨w.heap.size, 0, none⟩), .func (.func 25) #[] #[.pointer (some ⟨w.heap.size + 1, 0, none⟩), .pointer (some ⟨w.heap.size + 1 + 1, 0, none⟩)], .int .i64 (k : Int), .int .u64 x, .int .i64 b, .func (.func 25) #[] #[.pointer (some ⟨w.heap.size + 1, 0, none⟩), .pointer (some ⟨w.heap.size + 1 + 1, 0, none⟩)], .func (.func 25) #[] #[.pointer (some ⟨w.heap.size + 1, 0, none⟩), .pointer (some ⟨w.heap.size + 1 + 1, 0, none⟩)], .bool false, .func (.func 25) #[] #[.pointer (some ⟨w.heap.size + 1, 0, none⟩), .pointer (some ⟨w.heap.size + 1 + 1, 0, none⟩)], .int .i64 (k : Int), undef], defers := [] }) ?assign ?body ?done ?stop
  case assign =>
    intro l k W K hK
    gi_wp2
    exact hK
  case body =>
    rintro l pre k W ⟨⟨rfl, hv⟩, hB⟩ hlt
    have hc := hv.cell
    have hfz := hv.frozen
    gi_wp2
    exact ⟨(KeepsOthers.setCell _ _ _).from _, ⟨⟨rfl, rfl⟩, hv.set _⟩, hB.setCell (p := ⟨w.heap.size, 0, none⟩) (Nat.le_refl _) _⟩
  case done =>
    rintro D ys W hD hys ⟨⟨rfl, hv⟩, hB⟩ hK
    have hc := hv.cell
    have hfz := hv.frozen
    have Hys := Lib.hid hys; clear hys
    gi_wp2
    have hK' := (KeepsOthers.setCell W ⟨w.heap.size, 0, none⟩ (.int .i64 (-1))).same D _ hK rfl
    refine ⟨by simp, .inl ⟨_, _, rfl, run_takeDeferred hK', ?_⟩⟩
    have hc5 := cell_kept (hv.set (.int .i64 (-1))).cell (grownBy_putObj' _ D (.deferred none)) (fun r e => by cases e; exact ⟨_, hK', rfl⟩)
    refine ⟨.int .i64 (-1), ?_, ret_int (by rw [← Hys.out]; rfl), (hB.setCell (p := ⟨w.heap.size, 0, none⟩) (Nat.le_refl _) _).trans (belowK_b (w := w) (Nat.le_refl _) _ D _ _ (by simp at hD; omega) hK' rfl rfl)⟩
    simp [results, Try.f15, go_sem, hc5]
  case stop =>
    rintro D c pre W hD hpre ⟨⟨⟨rfl, hp⟩, hv⟩, hB⟩ hK
    rw [hp] at hpre
    have Hp := Lib.hid hp; clear hp
    gi_wp2
    refine ⟨by simp, .inl ⟨_, _, rfl, run_takeDeferred hK, ?_⟩⟩
    have hc5 := cell_kept hv.cell (grownBy_putObj' _ D (.deferred none)) (fun r e => by cases e; exact ⟨_, hK, rfl⟩)
    refine ⟨.int .i64 ((pre.headD 0 : Nat) : Int), ?_, ret_int (headI_of hpre).symm, hB.trans (belowK_b (w := w) (Nat.le_refl _) W D _ _ (by simp at hD; omega) hK rfl rfl)⟩
    simp [results, Try.f15, go_sem, hc5]
theorem lfirst_any (x b : Int) (hx0 : 0 ≤ x) (hx1 : x ≤ 18446744073709551615) (w : World) : Calls Try.prog 15 #[.int .u64 x, .int .i64 b] w (GivesInt (headI (Ln.plc x b)) w) :=
  (callsIn_wide (n := 9)).1 (lfirst_in 9 (by omega) x b hx0 hx1 w)
/-- The slice does not lie in block B. -/
def Apart (B : Nat) (v : Value) : Prop := v.ownBlock ≠ some B
/-- Places as whole numbers. -/
def asI (l : List Nat) : List Int := l.map fun k : Nat => (k : Int)
theorem asI_len (l : List Nat) : (asI l).length = l.length := by simp [asI]
theorem asI_snoc (l : List Nat) (k : Nat) : asI (l ++ [k]) = asI l ++ [(k : Int)] := by simp [asI]
set_option maxRecDepth 100000 in
set_option maxHeartbeats 2000000 in
theorem lplaces_in (n : Nat) (hn : 5 ≤ n) (x b : Int) (hx0 : 0 ≤ x) (hx1 : x ≤ 18446744073709551615) (w : World) :
    CallsIn Fence.wide n Try.prog 14 #[.int .u64 x, .int .i64 b] w (RowOf (asI (Ln.plc x b)) w) := by
  have h1 : 1 ≤ n := by omega
  have hf : Fence.wide.fn 24 := trivial
  have hnil := func_nil
  obtain ⟨i0, hi, hz0, hz1, hz2⟩ := info_parts info_int
  have Hz0 := Lib.hid hz0; clear hz0
  have Hz1 := Lib.hid hz1; clear hz1
  have Hz2 := Lib.hid hz2; clear hz2
  have Hi := Lib.hid hi; clear hi
  refine callsIn_of_wp_marks Try.func14 rfl trivial ?_ rfl
  simp only [Try.ntmps14, List.size_toArray, List.length_cons, List.length_nil, Nat.reduceAdd, Nat.reduceSub, Array.replicate_succ, Array.replicate_zero, List.push_toArray, List.append_toArray, List.nil_append, List.cons_append]
  gi_wp2_with (gi_at_call 24; refine (places_call (n - 1) _ _ _).mono ?_; rintro e w' ⟨rfl, rfl⟩)
  have r0 := World.ownsRow_lit (base := w.heap.size) (e := 3) (size := 1) w #[] 0 (Nat.le_refl _) (by decide) (by decide)
  have b0 := Boxed.new (w.alloc (.cells #[] 3)) 27 (.slice (some ⟨w.heap.size, 0, none⟩) 0 0)
  have b1 := Boxed.new ((w.alloc (.cells #[] 3)).alloc (.cells #[.slice (some ⟨w.heap.size, 0, none⟩) 0 0] 27)) 22 (.int .u64 x)
  have b2 := Boxed.new (((w.alloc (.cells #[] 3)).alloc (.cells #[.slice (some ⟨w.heap.size, 0, none⟩) 0 0] 27)).alloc (.cells #[.int .u64 x] 22)) 3 (.int .i64 b)
  simp only [World.size_alloc] at b0 b1 b2
  have hB0 : Below w.heap.size w ((((w.alloc (.cells #[] 3)).alloc (.cells #[.slice (some ⟨w.heap.size, 0, none⟩) 0 0] 27)).alloc (.cells #[.int .u64 x] 22)).alloc (.cells #[.int .i64 b] 3)) := ((((Below.refl _ w).alloc (Nat.le_refl _) _).alloc (by simp) _).alloc (by simp; omega) _).alloc (by simp; omega) _
  refine wpIn_rangeFunc_ownG rfl h1 (gf := 25) (lb := #[.pointer (some ⟨w.heap.size + 1 + 1, 0, none⟩), .pointer (some ⟨w.heap.size + 1 + 1 + 1, 0, none⟩)]) rfl trivial (enters_of Try.func25 (by kernel_rfl) rfl)
    (places_stops (n - 1) (by omega) x b hx0 hx1 (w.heap.size + 1 + 1) (w.heap.size + 1 + 1 + 1) _ (by simp) (by simp) (b1.alloc _).cell b2.cell) Kp2.t (fun W l o o' _ h hc _ => Kp2.b W l o o' h hc) (Below.refl _ _) (fun _ => rfl)
    (fun pre W => ((∃ v, Boxed W (w.heap.size + 1) 27 v ∧ W.ownsRow w.heap.size 3 1 v (asI pre).length ((asI pre).map (Value.int .i64)) ∧ Apart (w.heap.size + 1 + 1 + 1) v) ∧ (Boxed W (w.heap.size + 1 + 1) 22 (.int .u64 x) ∧ Boxed W (w.heap.size + 1 + 1 + 1) 3 (.int .i64 b))) ∧ Below w.heap.size w W)
    (fun _ _ _ => False)
    (OwnFrom.and (OwnFrom.and (Own.from (holdsRow_own w.heap.size (w.heap.size + 1) 27 3 1 (fun pre => (asI pre).length) (fun pre => (asI pre).map (Value.int .i64)) (fun _ v => Apart (w.heap.size + 1 + 1 + 1) v)) _) (OwnFrom.and (Own.from (boxed_own _ _ (fun _ : List Nat => .int .u64 x)) _) (Own.from (boxed_own _ _ (fun _ : List Nat => .int .i64 b)) _))) (ownFrom_below (Nat.le_refl _) (by simp; omega)))
    (fun _ _ _ _ _ hs _ _ => hs)
    ⟨⟨⟨_, (b0.alloc _).alloc _, ((r0.alloc _).alloc _).alloc _, by simp [Apart, Value.ownBlock]; omega⟩, b1.alloc _, b2⟩, hB0⟩
    (fun k => { tmps := #[.int .u64 x, .int .i64 b, undef, undef, .slice none 0 0, .pointer (some ⟨w.heap.size + 1, 0, none⟩), (.func (.func 25) #[] #[.pointer (some ⟨w.heap.size + 1 + 1, 0, none⟩), .pointer (some ⟨w.heap.size + 1 + 1 + 1, 0, none⟩)]), .int .i64 (k : Int), .slice (some ⟨w.heap.size, 0, none⟩) 0 0, .int .u64 x, .int .i64 b, (.func (.func 25) #[] #[.pointer (some ⟨w.heap.size + 1 + 1, 0, none⟩), .pointer (some ⟨w.heap.size + 1 + 1 + 1, 0, none⟩)]), (.func (.func 25) #[] #[.pointer (some ⟨w.heap.size + 1 + 1, 0, none⟩), .pointer (some ⟨w.heap.size + 1 + 1 + 1, 0, none⟩)]), .bool false, undef, (.func (.func 25) #[] #[.pointer (some ⟨w.heap.size + 1 + 1, 0, none⟩), .pointer (some ⟨w.heap.size + 1 + 1 + 1, 0, none⟩)]), .int .i64 (k : Int), undef, undef, undef, undef, undef, undef, undef, undef], defers := [] }) ?assign ?body ?done ?stop
  case assign =>
    intro l k W K hK
    gi_wp2
    exact hK
  case body =>
    rintro l pre k W ⟨⟨⟨v, hv, hrow, hap⟩, hx, hb⟩, hB⟩ hlt
    have hc := hv.cell
    have hlen := asI_len pre
    have hlen8 : (asI pre).length < 8 := by omega
    have Hlen := Lib.hid hlen; clear hlen
    gi_wp2_with (gi_at_builtin; refine wpListIn_append_own_at _ rfl _ _ 27 rfl w.heap.size 3 i0 (.int .i64 0) 1 8 Try.underlying27 Hi.out Hz0.out Hz1.out Hz2.out rfl (by decide) _ _ _ rfl (hrow.alloc _) ⟨W.heap.size, 0, none⟩ 1 1 [.int .i64 (k : Int)] rfl rfl (cell_one_new _ _ _) (by simp [Value.oneCell']) (by unfold maxLen; omega) (by omega) (by have := hB.size; simp; omega) ?_; intro v' w1 hown' hgrow _ hat; obtain ⟨g', cap', rfl⟩ := ownsRow_succ hown'; obtain ⟨hv1, hv2, hr2, hk2, hb2⟩ := hv.appended (by decide) hrow hB.size (by omega) hown' hgrow; have hc1 := hv1.cell; have hf1 := hv1.frozen; have hc2 := hv2.cell)
    have hx2 := ((hx.alloc _).kept hgrow (hx.not_row (by decide) hrow)).other (B' := w.heap.size + 1) (by omega) (.slice (some ⟨g', 0, none⟩) ((asI pre).length + 1) cap')
    have hb3 := ((hb.alloc _).kept hgrow (fun e => hap e.symm)).other (B' := w.heap.size + 1) (by omega) (.slice (some ⟨g', 0, none⟩) ((asI pre).length + 1) cap')
    have hap' : Apart (w.heap.size + 1 + 1 + 1) (.slice (some ⟨g', 0, none⟩) ((asI pre).length + 1) cap') := by
      rcases hat with h | h
      · unfold Apart; rw [h]; exact hap
      · unfold Apart; rw [h]; have := hb.lt; simp; omega
    exact ⟨hk2.from _, ⟨fun v hv' => by rw [hx.cell] at hv'; rw [hx2.cell]; exact hv', fun v hv' => by rw [hb.cell] at hv'; rw [hb3.cell]; exact hv'⟩, ⟨⟨_, hv2, by rw [asI_snoc]; simpa using hr2, hap'⟩, hx2, hb3⟩, hB.trans hb2⟩
  case done =>
    rintro D ys W hD rfl ⟨⟨⟨v, hv, hrow, _⟩, _⟩, hB⟩ hK
    have hc := hv.cell
    gi_wp2
    refine ⟨by simp, .inl ⟨_, _, rfl, run_takeDeferred hK, ?_⟩⟩
    exact ⟨_, results_tmp rfl _ _ _, rowOf_of (ownsRow_putObj hrow _ hK rfl) (hB.trans (belowK_b (w := w) (Nat.le_refl _) W D _ _ (by simp at hD; omega) hK rfl rfl))⟩
  case stop =>
    rintro D c pre W _ _ h _
    exact h.elim
theorem lplaces_any (x b : Int) (hx0 : 0 ≤ x) (hx1 : x ≤ 18446744073709551615) (w : World) : Calls Try.prog 14 #[.int .u64 x, .int .i64 b] w (RowOf (asI (Ln.plc x b)) w) :=
  (callsIn_wide (n := 9)).1 (lplaces_in 9 (by omega) x b hx0 hx1 w)
end Go.Proofs.Ytjfajnnbmlhpdaa
