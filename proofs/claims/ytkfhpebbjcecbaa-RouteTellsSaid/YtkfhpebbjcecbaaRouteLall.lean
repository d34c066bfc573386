/-
  The walk of the statements' own 'all': the groups that are told, at most so many. By an AI agent.
-/
import Derived.Test.YtkfhpebbjcecbaaRouteRows
namespace Go.Proofs.Ytkfhpebbjcecbaa
open Go.RowKit Go.Shelf
attribute [local go_sem] Oper.semAt_some
/-- The slice does not lie in block B. -/
def Apart (B : Nat) (v : Value) : Prop := v.ownBlock ≠ some B
set_option maxRecDepth 100000 in
set_option maxHeartbeats 2000000 in
theorem lall_in (n : Nat) (hn : 9 ≤ n) (h : Nat) (hh : h ≤ 18446744073709551615) (log : Int) (most : Nat) (w : World) :
    CallsIn Fence.wide n Try.prog 10 #[.int .u64 (h : Int), .int .i64 log, .int .i64 (most : Int)] w (RowOf (asI ((Rt.way (h / 128) (Rt.grp log)).take most)) w) := by
  have h1 : 1 ≤ n := by omega
  have hf : Fence.wide.fn 13 := trivial
  have hnil := func_nil
  obtain ⟨i0, hi, hz0, hz1, hz2⟩ := info_parts info_int
  have Hz0 := Lib.hid hz0; clear hz0
  have Hz1 := Lib.hid hz1; clear hz1
  have Hz2 := Lib.hid hz2; clear hz2
  have Hi := Lib.hid hi; clear hi
  refine callsIn_of_wp_marks Try.func10 rfl trivial ?_ rfl
  simp only [Try.ntmps10, List.size_toArray, List.length_cons, List.length_nil, Nat.reduceAdd, Nat.reduceSub, Array.replicate_succ, Array.replicate_zero, List.push_toArray, List.append_toArray, List.nil_append, List.cons_append]
  gi_wp2_with (gi_at_call 13; refine (all_call (n - 1) _ _ _).mono ?_; rintro e w' ⟨rfl, rfl⟩)
  have b0 := Boxed.new w 3 (.int .i64 (most : Int))
  have r0 := World.ownsRow_lit (base := w.heap.size) (e := 3) (size := 1) (w.alloc (.cells #[.int .i64 (most : Int)] 3)) #[] 0 (by simp) (by decide) (by decide)
  have b2 := Boxed.new ((w.alloc (.cells #[.int .i64 (most : Int)] 3)).alloc (.cells #[] 3)) 26 (.slice (some ⟨w.heap.size + 1, 0, none⟩) 0 0)
  have b3 := Boxed.new (((w.alloc (.cells #[.int .i64 (most : Int)] 3)).alloc (.cells #[] 3)).alloc (.cells #[.slice (some ⟨w.heap.size + 1, 0, none⟩) 0 0] 26)) 22 (.int .u64 (h : Int))
  have b4 := Boxed.new ((((w.alloc (.cells #[.int .i64 (most : Int)] 3)).alloc (.cells #[] 3)).alloc (.cells #[.slice (some ⟨w.heap.size + 1, 0, none⟩) 0 0] 26)).alloc (.cells #[.int .u64 (h : Int)] 22)) 3 (.int .i64 log)
  simp only [World.size_alloc] at r0 b2 b3 b4
  have hB0 : Below w.heap.size w (((((w.alloc (.cells #[.int .i64 (most : Int)] 3)).alloc (.cells #[] 3)).alloc (.cells #[.slice (some ⟨w.heap.size + 1, 0, none⟩) 0 0] 26)).alloc (.cells #[.int .u64 (h : Int)] 22)).alloc (.cells #[.int .i64 log] 3)) := (((((Below.refl _ w).alloc (Nat.le_refl _) _).alloc (by simp) _).alloc (by simp; omega) _).alloc (by simp; omega) _).alloc (by simp; omega) _
  refine wpIn_rangeFunc_ownG rfl h1 (gf := 15) (lb := #[.pointer (some ⟨w.heap.size + 1 + 1 + 1 + 1, 0, none⟩), .pointer (some ⟨w.heap.size + 1 + 1 + 1, 0, none⟩)]) rfl trivial (enters_of Try.func15 (by kernel_rfl) rfl)
    (all_stops (n - 1) (by omega) log h hh (w.heap.size + 1 + 1 + 1 + 1) (w.heap.size + 1 + 1 + 1) _ (by simp) (by simp) b4.cell (b3.alloc _).cell) Kp2.t (fun W l o o' _ h hc _ => Kp2.b W l o o' h hc) (Below.refl _ _) (fun _ => rfl)
    (fun pre W => ((((∃ v, Boxed W (w.heap.size + 1 + 1) 26 v ∧ W.ownsRow w.heap.size 3 1 v (asI pre).length ((asI pre).map (Value.int .i64)) ∧ (Apart w.heap.size v ∧ Apart (w.heap.size + 1 + 1 + 1 + 1) v)) ∧ Boxed W w.heap.size 3 (.int .i64 (most : Int))) ∧ (Boxed W (w.heap.size + 1 + 1 + 1) 22 (.int .u64 (h : Int)) ∧ Boxed W (w.heap.size + 1 + 1 + 1 + 1) 3 (.int .i64 log))) ∧ Below w.heap.size w W) ∧ pre.length ≤ most)
    (fun c pre W => ((∃ v, Boxed W (w.heap.size + 1 + 1) 26 v ∧ W.ownsRow w.heap.size 3 1 v (asI pre.dropLast).length ((asI pre.dropLast).map (Value.int .i64)) ∧ True) ∧ Below w.heap.size w W) ∧ (c = .exit 0 ∧ pre.dropLast.length = most))
    (OwnFrom.and (OwnFrom.and (OwnFrom.and (OwnFrom.and (Own.from (holdsRow_own w.heap.size (w.heap.size + 1 + 1) 26 3 1 (fun pre : List Nat => (asI pre).length) (fun pre : List Nat => (asI pre).map (Value.int .i64)) (fun _ v => Apart w.heap.size v ∧ Apart (w.heap.size + 1 + 1 + 1 + 1) v)) _) (Own.from (boxed_own _ _ (fun _ : List Nat => .int .i64 (most : Int))) _)) (OwnFrom.and (Own.from (boxed_own _ _ (fun _ : List Nat => .int .u64 (h : Int))) _) (Own.from (boxed_own _ _ (fun _ : List Nat => .int .i64 log)) _))) (ownFrom_below (Nat.le_refl _) (by simp; omega))) (ownFrom_pure _ (fun pre : List Nat => pre.length ≤ most)))
    (fun c => OwnFrom.and (OwnFrom.and (Own.from (holdsRow_own w.heap.size (w.heap.size + 1 + 1) 26 3 1 (fun pre : List Nat => (asI pre.dropLast).length) (fun pre : List Nat => (asI pre.dropLast).map (Value.int .i64)) (fun _ _ => True)) _) (ownFrom_below (Nat.le_refl _) (by simp; omega))) (ownFrom_pure _ (fun pre : List Nat => c = .exit 0 ∧ pre.dropLast.length = most)))
    ⟨⟨⟨⟨⟨_, (b2.alloc _).alloc _, ((r0.alloc _).alloc _).alloc _, by simp [Apart, Value.ownBlock], by simp [Apart, Value.ownBlock]⟩, (((b0.alloc _).alloc _).alloc _).alloc _⟩, b3.alloc _, b4⟩, hB0⟩, Nat.zero_le _⟩
    (fun k => { tmps := #[.int .u64 (h : Int), .int .i64 log, .int .i64 (most : Int), undef, undef, .pointer (some ⟨w.heap.size, 0, none⟩), .slice none 0 0, .pointer (some ⟨w.heap.size + 1 + 1, 0, none⟩), .func (.func 15) #[] #[.pointer (some ⟨w.heap.size + 1 + 1 + 1 + 1, 0, none⟩), .pointer (some ⟨w.heap.size + 1 + 1 + 1, 0, none⟩)], .int .i64 (k : Int), .slice (some ⟨w.heap.size + 1, 0, none⟩) 0 0, .int .u64 (h : Int), .int .i64 log, .func (.func 15) #[] #[.pointer (some ⟨w.heap.size + 1 + 1 + 1 + 1, 0, none⟩), .pointer (some ⟨w.heap.size + 1 + 1 + 1, 0, none⟩)], .func (.func 15) #[] #[.pointer (some ⟨w.heap.size + 1 + 1 + 1 + 1, 0, none⟩), .pointer (some ⟨w.heap.size + 1 + 1 + 1, 0, none⟩)], .bool false, undef, .func (.func 15) #[] #[.pointer (some ⟨w.heap.size + 1 + 1 + 1 + 1, 0, none⟩), .pointer (some ⟨w.heap.size + 1 + 1 + 1, 0, none⟩)], .int .i64 (k : Int), undef, undef, undef, undef, undef, undef, undef, undef, undef], defers := [] }) ?assign ?body ?done ?stop
  case assign =>
    intro l k W K hK
    gi_wp2
    exact hK
  case body =>
    rintro l pre k W ⟨⟨⟨⟨⟨v, hv, hrow, hap1, hap2⟩, hmb⟩, hx, hb⟩, hB⟩, hle⟩ hlt
    have hc := hv.cell
    have hcm := hmb.cell
    have hfz := hv.frozen
    have hlen := asI_len pre
    obtain ⟨va, vc, rfl⟩ : ∃ A c, v = .slice A (asI pre).length c := by
      rcases hrow.2 with ⟨rfl, h0⟩ | ⟨g, cap, cur, rfl, _⟩
      · exact ⟨none, 0, by rw [h0]⟩
      · exact ⟨_, _, rfl⟩
    by_cases he : (asI pre).length = most
    · have he' : (((asI pre).length : Int) == (most : Int)) = true := by simp [he]
      have He := Lib.hid he; clear he
      have Hlen := Lib.hid hlen; clear hlen
      gi_wp2
      exact ⟨KeepsFrom.refl _ _, ⟨⟨_, hv, by simpa using hrow, trivial⟩, hB⟩, rfl, by have := He.out; have := Hlen.out; simp; omega⟩
    · have he' : (((asI pre).length : Int) == (most : Int)) = false := by simp; omega
      have He := Lib.hid he; clear he
      have hlen8 : (asI pre).length < 512 := by omega
      have Hlen := Lib.hid hlen; clear hlen
      gi_wp2_with (gi_at_builtin; refine wpListIn_append_own_at _ rfl _ _ 26 rfl w.heap.size 3 i0 (.int .i64 0) 1 8 Try.underlying26 Hi.out Hz0.out Hz1.out Hz2.out rfl (by decide) _ _ _ rfl (hrow.alloc _) ⟨W.heap.size, 0, none⟩ 1 1 [.int .i64 (k : Int)] rfl rfl (cell_one_new _ _ _) (by simp [Value.oneCell']) (by unfold maxLen; omega) (by omega) (by have := hB.size; simp; omega) ?_; intro v' w1 hown' hgrow _ hat; obtain ⟨g', cap', rfl⟩ := ownsRow_succ hown'; obtain ⟨hv1, hv2, hr2, hk2, hb2⟩ := hv.appended (by decide) hrow hB.size (by omega) hown' hgrow; have hc1 := hv1.cell; have hf1 := hv1.frozen; have hc2 := hv2.cell)
      have hm2 := ((hmb.alloc _).kept hgrow (fun e => hap1 e.symm)).other (B' := w.heap.size + 1 + 1) (by omega) (.slice (some ⟨g', 0, none⟩) ((asI pre).length + 1) cap')
      have hx2 := ((hx.alloc _).kept hgrow (hx.not_row (by decide) hrow)).other (B' := w.heap.size + 1 + 1) (by omega) (.slice (some ⟨g', 0, none⟩) ((asI pre).length + 1) cap')
      have hb3 := ((hb.alloc _).kept hgrow (fun e => hap2 e.symm)).other (B' := w.heap.size + 1 + 1) (by omega) (.slice (some ⟨g', 0, none⟩) ((asI pre).length + 1) cap')
      have hap1' : Apart w.heap.size (.slice (some ⟨g', 0, none⟩) ((asI pre).length + 1) cap') := by
        rcases hat with h | h
        · unfold Apart; rw [h]; exact hap1
        · unfold Apart; rw [h]; have := hmb.lt; simp; omega
      have hap2' : Apart (w.heap.size + 1 + 1 + 1 + 1) (.slice (some ⟨g', 0, none⟩) ((asI pre).length + 1) cap') := by
        rcases hat with h | h
        · unfold Apart; rw [h]; exact hap2
        · unfold Apart; rw [h]; have := hb.lt; simp; omega
      exact ⟨hk2.from _, ⟨fun v hv' => by rw [hb.cell] at hv'; rw [hb3.cell]; exact hv', fun v hv' => by rw [hx.cell] at hv'; rw [hx2.cell]; exact hv'⟩, ⟨⟨⟨⟨_, hv2, by rw [asI_snoc]; simpa using hr2, hap1', hap2'⟩, hm2⟩, hx2, hb3⟩, hB.trans hb2⟩, by have := He.out; have := Hlen.out; simp; omega⟩
  case done =>
    rintro D ys W hD rfl ⟨⟨⟨⟨⟨v, hv, hrow, _⟩, _⟩, _⟩, hB⟩, hle⟩ hK
    have hc := hv.cell
    have hrow' : W.ownsRow w.heap.size 3 1 v (asI ((Rt.way (h / 128) (Rt.grp log)).take most)).length ((asI ((Rt.way (h / 128) (Rt.grp log)).take most)).map (Value.int .i64)) := by rw [List.take_of_length_le hle]; exact hrow
    clear hrow
    gi_wp2
    refine ⟨by simp, .inl ⟨_, _, rfl, run_takeDeferred hK, ?_⟩⟩
    exact ⟨_, results_tmp rfl _ _ _, rowOf_of (ownsRow_putObj hrow' _ hK rfl) (hB.trans (belowK_b (w := w) (Nat.le_refl _) W D _ _ (by simp at hD; omega) hK rfl rfl))⟩
  case stop =>
    rintro D c pre W hD hpre ⟨⟨⟨v, hv, hrow, -⟩, hB⟩, rfl, hlen⟩ hK
    have hc := hv.cell
    have hrow' : W.ownsRow w.heap.size 3 1 v (asI ((Rt.way (h / 128) (Rt.grp log)).take most)).length ((asI ((Rt.way (h / 128) (Rt.grp log)).take most)).map (Value.int .i64)) := by
      have e : (Rt.way (h / 128) (Rt.grp log)).take most = pre.dropLast := by
        have h2 : pre.dropLast <+: Rt.way (h / 128) (Rt.grp log) := (List.dropLast_prefix pre).trans hpre
        rw [← hlen]; exact (List.prefix_iff_eq_take.1 h2).symm
      rw [e]; exact hrow
    clear hrow hpre hlen
    gi_wp2
    refine ⟨by simp, .inl ⟨_, _, rfl, run_takeDeferred hK, ?_⟩⟩
    exact ⟨_, results_tmp rfl _ _ _, rowOf_of (ownsRow_putObj hrow' _ hK rfl) (hB.trans (belowK_b (w := w) (Nat.le_refl _) W D _ _ (by simp at hD; omega) hK rfl rfl))⟩
/-- The statements' own 'all'. -/
theorem lall_any (h : Nat) (hh : h ≤ 18446744073709551615) (log : Int) (most : Nat) (w : World) :
    Calls Try.prog 10 #[.int .u64 (h : Int), .int .i64 log, .int .i64 (most : Int)] w (RowOf (asI ((Rt.way (h / 128) (Rt.grp log)).take most)) w) :=
  (callsIn_wide (n := 9)).1 (lall_in 9 (by omega) h hh log most w)
end Go.Proofs.Ytkfhpebbjcecbaa
