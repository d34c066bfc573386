/-
  The walk of the statements' own 'all': what a map tells, at most so many. By an AI agent.
-/
import Derived.Test.YtclkpfjihdcnfaaDictIter
import Derived.Maps.OwnIn
namespace Go.Proofs.Ytclkpfjihdcnfaa
open Go.RowKit Go.Shelf
open Dc (Pr)
attribute [local go_sem] Oper.semAt_some
theorem func_nil (f : Nat) (cap : Array Value) (w : World) : (binOp .eql 55 (.func (.func f) #[] cap) .nilFunc).run Try.prog w = .ok (.bool false) w := by
  first | rfl | kernel_rfl | simp [binOp, go_sem]
theorem info_api : (Try.prog.info? 40).map (fun i => (i.zero, i.size, i.bytes)) = some (some (.agg #[.string ⟨#[]⟩, .string ⟨#[]⟩]), 2, 32) := by kernel_rfl
/-- A call answers a new list. -/
def Tells (l : List Pr) (w : World) (e : Ending) (w' : World) : Prop := ∃ v, e = .returned v ∧ Row w.heap.size 40 w' v l ∧ Below w.heap.size w w'
theorem Kp.appended {W w1 : World} {b : Nat} {t : TypeId} {v v' : Value} {tmp : Obj} (hv : Boxed W b t v) (hgrow : (W.alloc tmp).grownBy w1 v.ownBlock) (hat : v'.ownBlock = v.ownBlock ∨ v'.ownBlock = some (W.alloc tmp).heap.size) (hv2 : Boxed (w1.setCell ⟨b, 0, none⟩ v') b t v') :
    Kp b 0 W (w1.setCell ⟨b, 0, none⟩ v') := by
  have e1 : fp b 0 W = v.ownBlock := by unfold fp; rw [hv.cell]; rfl
  have e2 : fp b 0 (w1.setCell ⟨b, 0, none⟩ v') = v'.ownBlock := by unfold fp; rw [hv2.cell]; rfl
  have hsz : W.heap.size ≤ (w1.setCell ⟨b, 0, none⟩ v').heap.size := by
    have := hgrow.size
    simp [World.setCell] at this ⊢; omega
  refine ⟨hsz, fun k c t' hk hb hf => ?_, fun k hk => ?_⟩
  · have hlt := (Array.getElem?_eq_some_iff.1 hk).1
    rw [Below.heap_setCell _ _ _ k hb, hgrow.block k (by simp; omega) (fun e => hf (by rw [e1, ← e])), Below.heap_alloc _ _ _ hlt]
  · rw [e2] at hk
    rcases hat with h | h
    · exact .inl (by rw [e1, ← h, hk])
    · rw [h] at hk; cases hk; simp
theorem cell_two_new (W : World) (a b : Value) (t : TypeId) : ∀ j u, [a, b][j]? = some u → (W.alloc (.cells #[a, b] t)).cell? ((⟨W.heap.size, 0, none⟩ : Addr).add j) = some u := by
  have : (W.alloc (.cells #[a, b] t)).heap[W.heap.size]? = some (.cells ([] ++ [a, b] ++ []).toArray t (0, 0)) := heap_alloc_new W _
  exact cells_at this rfl
set_option maxRecDepth 100000 in
set_option maxHeartbeats 2000000 in
theorem lall_in (n : Nat) (hn : 9 ≤ n) (P : Option Addr) (l : List Pr) (most : Nat) (hl : l.length ≤ 1000000) (w : World)
    (hseq : ∀ (w1 : World) (b1 kb ko : Nat), Below w.heap.size w w1 → w1.cell? ⟨b1, 0, none⟩ = some (.pointer P) → kb < w1.heap.size → (∀ k, fp kb ko w1 = some k → k < w1.heap.size) →
      SeqStopsK Fence.wide (n - 1) Try.prog 29 #[.pointer (some ⟨b1, 0, none⟩)] (fun x : Pr => #[Value.string x.1, Value.string x.2]) (Kp kb ko) (fun ys => ys = l) (fun pre => pre <+: l) l.length w1) :
    CallsIn Fence.wide n Try.prog 16 #[.pointer P, .int .i64 (most : Int)] w (Tells (l.take most) w) := by
  have h1 : 1 ≤ n := by omega
  have hf : Fence.wide.fn 24 := trivial
  have hnil := func_nil
  obtain ⟨i0, hi, hz0, hz1, hz2⟩ := info_parts info_api
  have Hz0 := Lib.hid hz0; clear hz0
  have Hz1 := Lib.hid hz1; clear hz1
  have Hz2 := Lib.hid hz2; clear hz2
  have Hi := Lib.hid hi; clear hi
  have HS := Lib.hid hseq; clear hseq
  refine callsIn_of_wp_marks Try.func16 rfl trivial ?_ rfl
  simp only [Try.ntmps16, List.size_toArray, List.length_cons, List.length_nil, Nat.reduceAdd, Nat.reduceSub, Array.replicate_succ, Array.replicate_zero, List.push_toArray, List.append_toArray, List.nil_append, List.cons_append]
  gi_wp2_with (gi_at_call 24; refine (all_call (n - 1) _ _).mono ?_; rintro e w' ⟨rfl, rfl⟩)
  have b0 := Boxed.new w 3 (.int .i64 (most : Int))
  have r0 := World.ownsRow_lit (base := w.heap.size) (e := 40) (size := 2) (w.alloc (.cells #[.int .i64 (most : Int)] 3)) #[] 0 (by simp) (by decide) (by decide)
  have b2 := Boxed.new ((w.alloc (.cells #[.int .i64 (most : Int)] 3)).alloc (.cells #[] 40)) 26 (.slice (some ⟨w.heap.size + 1, 0, none⟩) 0 0)
  have b3 := Boxed.new (((w.alloc (.cells #[.int .i64 (most : Int)] 3)).alloc (.cells #[] 40)).alloc (.cells #[.slice (some ⟨w.heap.size + 1, 0, none⟩) 0 0] 26)) 24 (.pointer P)
  simp only [World.size_alloc] at r0 b2 b3
  have hB0 : Below w.heap.size w ((((w.alloc (.cells #[.int .i64 (most : Int)] 3)).alloc (.cells #[] 40)).alloc (.cells #[.slice (some ⟨w.heap.size + 1, 0, none⟩) 0 0] 26)).alloc (.cells #[.pointer P] 24)) := ((((Below.refl _ w).alloc (Nat.le_refl _) _).alloc (by simp) _).alloc (by simp; omega) _).alloc (by simp; omega) _
  have hfp0 : ∀ k, fp (w.heap.size + 1 + 1) 0 ((((w.alloc (.cells #[.int .i64 (most : Int)] 3)).alloc (.cells #[] 40)).alloc (.cells #[.slice (some ⟨w.heap.size + 1, 0, none⟩) 0 0] 26)).alloc (.cells #[.pointer P] 24)) = some k → k < ((((w.alloc (.cells #[.int .i64 (most : Int)] 3)).alloc (.cells #[] 40)).alloc (.cells #[.slice (some ⟨w.heap.size + 1, 0, none⟩) 0 0] 26)).alloc (.cells #[.pointer P] 24)).heap.size := fun k hk => by
    unfold fp at hk
    rw [(b2.alloc _).cell] at hk
    cases hk
    simp
  refine wpIn_rangeFunc_ownG rfl h1 (gf := 29) (lb := #[.pointer (some ⟨w.heap.size + 1 + 1 + 1, 0, none⟩)]) rfl trivial (enters_of Try.func29 (by kernel_rfl) rfl)
    (HS.out _ (w.heap.size + 1 + 1 + 1) (w.heap.size + 1 + 1) 0 hB0 b3.cell (by simp) hfp0) Kp.t (fun W l o o' hle h hc _ => Kp.b W l o o' (by simp at hle; omega) h hc) (Below.refl _ _) (fun _ => rfl)
    (fun pre W => (((∃ v, Boxed W (w.heap.size + 1 + 1) 26 v ∧ W.ownsRow w.heap.size 40 2 v pre.length (enc pre) ∧ True) ∧ Boxed W w.heap.size 3 (.int .i64 (most : Int))) ∧ Below w.heap.size w W) ∧ pre.length ≤ most)
    (fun c pre W => ((∃ v, Boxed W (w.heap.size + 1 + 1) 26 v ∧ W.ownsRow w.heap.size 40 2 v pre.dropLast.length (enc pre.dropLast) ∧ True) ∧ Below w.heap.size w W) ∧ (c = .exit 0 ∧ pre.dropLast.length = most))
    (OwnFrom.and (OwnFrom.and (OwnFrom.and (Own.from (holdsRow_own w.heap.size (w.heap.size + 1 + 1) 26 40 2 (fun pre : List Pr => pre.length) (fun pre : List Pr => enc pre) (fun _ _ => True)) _) (Own.from (boxed_own _ _ (fun _ : List Pr => .int .i64 (most : Int))) _)) (ownFrom_below (Nat.le_refl _) (by simp; omega))) (ownFrom_pure _ (fun pre : List Pr => pre.length ≤ most)))
    (fun c => OwnFrom.and (OwnFrom.and (Own.from (holdsRow_own w.heap.size (w.heap.size + 1 + 1) 26 40 2 (fun pre : List Pr => pre.dropLast.length) (fun pre : List Pr => enc pre.dropLast) (fun _ _ => True)) _) (ownFrom_below (Nat.le_refl _) (by simp; omega))) (ownFrom_pure _ (fun pre : List Pr => c = .exit 0 ∧ pre.dropLast.length = most)))
    ⟨⟨⟨⟨_, b2.alloc _, (r0.alloc _).alloc _, trivial⟩, ((b0.alloc _).alloc _).alloc _⟩, hB0⟩, Nat.zero_le _⟩
    (fun x => { tmps := #[.pointer P, .int .i64 (most : Int), undef, .pointer (some ⟨w.heap.size, 0, none⟩), .slice none 0 0, .pointer (some ⟨w.heap.size + 1 + 1, 0, none⟩), (.func (.func 29) #[] #[.pointer (some ⟨w.heap.size + 1 + 1 + 1, 0, none⟩)]), .string x.1, .string x.2, .slice (some ⟨w.heap.size + 1, 0, none⟩) 0 0, .pointer P, (.func (.func 29) #[] #[.pointer (some ⟨w.heap.size + 1 + 1 + 1, 0, none⟩)]), (.func (.func 29) #[] #[.pointer (some ⟨w.heap.size + 1 + 1 + 1, 0, none⟩)]), .bool false, undef, undef, undef, (.func (.func 29) #[] #[.pointer (some ⟨w.heap.size + 1 + 1 + 1, 0, none⟩)]), .string x.1, .string x.2, undef, undef, undef, undef, undef, undef, undef, undef, undef, undef, undef], defers := [] }) ?assign ?body ?done ?stop
  case assign =>
    intro y x W K hK
    gi_wp2
    exact hK
  case body =>
    rintro y pre x W ⟨⟨⟨⟨v, hv, hrow, -⟩, hmb⟩, hB⟩, hle⟩ hlt
    have hc := hv.cell
    have hcm := hmb.cell
    have hfz := hv.frozen
    obtain ⟨va, vc, rfl⟩ := Row.lens (l := pre) hrow
    by_cases he : pre.length = most
    · have he' : ((pre.length : Int) == (most : Int)) = true := by simp [he]
      have He := Lib.hid he; clear he
      gi_wp2
      exact ⟨KeepsFrom.refl _ _, ⟨⟨_, hv, by simpa using hrow, trivial⟩, hB⟩, rfl, by simpa using He.out⟩
    · have he' : ((pre.length : Int) == (most : Int)) = false := by simp; omega
      have He := Lib.hid he; clear he
      have hlen8 : pre.length ≤ 1000000 := by omega
      gi_wp2_with (gi_at_builtin; refine wpListIn_append_own_at _ rfl _ _ 26 rfl w.heap.size 40 i0 (.agg #[.string ⟨#[]⟩, .string ⟨#[]⟩]) 2 32 Try.underlying26 Hi.out Hz0.out Hz1.out Hz2.out rfl (by decide) _ _ _ rfl (hrow.alloc _) ⟨W.heap.size, 0, none⟩ 1 1 [.string x.1, .string x.2] rfl rfl (cell_two_new _ _ _ _) (by simp [Value.oneCell']) (by unfold maxLen; omega) (by omega) (by have := hB.size; simp; omega) ?_; intro v' w1 hown' hgrow _ hat; obtain ⟨g', cap', rfl⟩ := ownsRow_succ hown'; obtain ⟨hv1, hv2, hr2, hk2, hb2⟩ := hv.appended (by decide) hrow hB.size (by omega) hown' hgrow; have hc1 := hv1.cell; have hf1 := hv1.frozen; have hc2 := hv2.cell)
      have hkp := Kp.appended hv hgrow hat hv2
      have hmb2 := ((hmb.alloc _).kept hgrow (hmb.not_row (by decide) hrow)).other (B' := w.heap.size + 1 + 1) (by omega) (.slice (some ⟨g', 0, none⟩) (pre.length + 1) cap')
      exact ⟨hk2.from _, hkp, ⟨⟨⟨_, hv2, by simpa [enc_append, enc] using hr2, trivial⟩, hmb2⟩, hB.trans hb2⟩, by have := He.out; simp; omega⟩
  case done =>
    rintro D ys W hD rfl ⟨⟨⟨⟨v, hv, hrow, -⟩, _⟩, hB⟩, hle⟩ hK
    have hc := hv.cell
    have hrow' : Row w.heap.size 40 W v (ys.take most) := by rw [List.take_of_length_le hle]; exact hrow
    clear hrow
    gi_wp2
    refine ⟨by simp, .inl ⟨_, _, rfl, run_takeDeferred hK, ?_⟩⟩
    exact ⟨_, results_tmp rfl _ _ _, v, rfl, ownsRow_putObj hrow' _ hK rfl, hB.trans (belowK_b (w := w) (Nat.le_refl _) W D _ _ (by simp at hD; omega) hK rfl rfl)⟩
  case stop =>
    rintro D c pre W hD hpre ⟨⟨⟨v, hv, hrow, -⟩, hB⟩, rfl, hlen⟩ hK
    have hc := hv.cell
    have hrow' : Row w.heap.size 40 W v (l.take most) := by
      have e : l.take most = pre.dropLast := by
        have h2 : pre.dropLast <+: l := (List.dropLast_prefix pre).trans hpre
        rw [← hlen]; exact (List.prefix_iff_eq_take.1 h2).symm
      rw [e]; exact hrow
    clear hrow hpre hlen
    gi_wp2
    refine ⟨by simp, .inl ⟨_, _, rfl, run_takeDeferred hK, ?_⟩⟩
    exact ⟨_, results_tmp rfl _ _ _, v, rfl, ownsRow_putObj hrow' _ hK rfl, hB.trans (belowK_b (w := w) (Nat.le_refl _) W D _ _ (by simp at hD; omega) hK rfl rfl)⟩
theorem lall_any (B p : Nat) (v : Value) (l : List Pr) (most : Nat) (w : World) (h : Mp B w p v l) (hl : l.length ≤ 1000000) :
    Calls Try.prog 16 #[.pointer (some ⟨p, 0, none⟩), .int .i64 (most : Int)] w (Tells (l.take most) w) :=
  (callsIn_wide (n := 9)).1 (lall_in 9 (by omega) _ l most hl w fun w1 b1 kb ko hb hc h1 h2 => all_stops 8 (by omega) b1 B p kb ko v l hl w1 hc (h.below hb) h1 h2)
theorem lall_not (P : Option Addr) (most : Nat) (w : World) (h : Not P w) :
    Calls Try.prog 16 #[.pointer P, .int .i64 (most : Int)] w (Tells [] w) := by
  have := (callsIn_wide (n := 9)).1 (lall_in 9 (by omega) P [] most (by simp) w fun w1 b1 kb ko hb hc _ _ => not_stops 8 (by omega) b1 kb ko P w1 hc (h.below hb))
  simpa using this
end Go.Proofs.Ytclkpfjihdcnfaa
