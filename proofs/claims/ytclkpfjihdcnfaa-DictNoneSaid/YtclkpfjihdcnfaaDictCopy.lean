/-
  The walk of Copy. By an AI agent.
-/
import Derived.Test.YtclkpfjihdcnfaaDictRound
set_option linter.unusedSimpArgs false
namespace Go.Proofs.Ytclkpfjihdcnfaa
open Go.RowKit Go.Shelf
open Dc (Pr)
attribute [local go_sem] Oper.semAt_some
set_option maxHeartbeats 1000000 in
theorem copy_not (P : Option Addr) (w : World) (h : Not P w) : Calls Try.prog 18 #[.pointer P] w (Same (.pointer none) w) := by
  have HM := Lib.hid (h w (Below.refl _ _)); clear h
  go_enter Try.func18, Try.ntmps18
  go_wp2_with (go_at_call 19; refine HM.out.mono ?_; rintro e w' ⟨rfl, rfl⟩)
  go_ret
  exact ⟨rfl, rfl⟩
/-- A map in the making. -/
structure Mq (B : Nat) (w : World) (q : Nat) (v : Value) (l : List Pr) : Prop where
  own : w.heap[q]? = some (.cells #[.bool true, v] 45 (0, 0))
  row : Row B 52 w v l
theorem Mq.new (w : World) : Mq w.heap.size (w.alloc (.cells #[.bool true, .slice none 0 0] 45)) w.heap.size (.slice none 0 0) [] := ⟨heap_alloc_new w _, World.ownsRow_nil _ _ _ _⟩
theorem Mq.keep {B : Nat} {w w' : World} {q : Nat} {v : Value} {l : List Pr} (h : Mq B w q v l) (hq : w'.heap[q]? = w.heap[q]?) (hk : ∀ k, v.ownBlock = some k → w'.heap[k]? = w.heap[k]?) : Mq B w' q v l := ⟨hq.trans h.own, own_keep h.row hk⟩
theorem Mq.lt {B : Nat} {w : World} {q : Nat} {v : Value} {l : List Pr} (h : Mq B w q v l) : q < w.heap.size := (Array.getElem?_eq_some_iff.1 h.own).1
theorem Mq.alloc {B : Nat} {w : World} {q : Nat} {v : Value} {l : List Pr} (h : Mq B w q v l) (o : Obj) : Mq B (w.alloc o) q v l := h.keep (Below.heap_alloc _ _ _ h.lt) fun k hk => Below.heap_alloc _ _ _ (h.row.lt k hk).2
theorem Mq.cell1 {B : Nat} {w : World} {q : Nat} {v : Value} {l : List Pr} (h : Mq B w q v l) : w.cell? ⟨q, 1, none⟩ = some v := by simp [World.cell?, h.own]
theorem Mq.frozen1 {B : Nat} {w : World} {q : Nat} {v : Value} {l : List Pr} (h : Mq B w q v l) : w.frozen? ⟨q, 1, none⟩ = false := by simp [World.frozen?, h.own]
theorem Mq.fp {B : Nat} {w : World} {q : Nat} {v : Value} {l : List Pr} (h : Mq B w q v l) : Go.Proofs.Ytclkpfjihdcnfaa.fp q 1 w = v.ownBlock := by unfold Go.Proofs.Ytclkpfjihdcnfaa.fp; rw [h.cell1]; rfl
theorem mq_own (B q : Nat) : Own (fun (pre : List Pr) W => ∃ v, Mq B W q v pre) := by
  rintro s X Y row ⟨v, hv⟩ hg hrow
  refine ⟨v, hv.keep (grownBy_keeps_cells hg hrow hv.own rfl) fun k hk => ?_⟩
  obtain ⟨cur, hc⟩ := own_block hv.row k hk
  exact grownBy_keeps_cells hg hrow hc rfl
theorem Mq.appended {w W w1 : World} {pre : List Pr} {x : Pr} {va : Option Addr} {vc g' cap' : Nat}
    (hv : Mq w.heap.size W w.heap.size (.slice va pre.length vc) pre) (hb : Boxed W (w.heap.size + 1) 24 (.pointer (some ⟨w.heap.size, 0, none⟩))) (hB : Below w.heap.size w W)
    (hown : w1.ownsRow w.heap.size 52 2 (.slice (some ⟨g', 0, none⟩) (pre.length + 1) cap') (pre.length + 1) (enc pre ++ [.string x.1, .string x.2]))
    (hg : (W.alloc (.cells #[.string x.1, .string x.2] 52)).grownBy w1 (Value.slice va pre.length vc).ownBlock) (hor : (Value.slice va pre.length vc).ownBlock = some g' ∨ g' = W.heap.size + 1) :
    KeepsOthers W (w1.setCell ⟨w.heap.size, 1, none⟩ (.slice (some ⟨g', 0, none⟩) (pre.length + 1) cap')) ∧ Kp w.heap.size 1 W (w1.setCell ⟨w.heap.size, 1, none⟩ (.slice (some ⟨g', 0, none⟩) (pre.length + 1) cap')) ∧
      (((∃ v, Mq w.heap.size (w1.setCell ⟨w.heap.size, 1, none⟩ (.slice (some ⟨g', 0, none⟩) (pre.length + 1) cap')) w.heap.size v (pre ++ [x])) ∧ Boxed (w1.setCell ⟨w.heap.size, 1, none⟩ (.slice (some ⟨g', 0, none⟩) (pre.length + 1) cap')) (w.heap.size + 1) 24 (.pointer (some ⟨w.heap.size, 0, none⟩))) ∧ Below w.heap.size w (w1.setCell ⟨w.heap.size, 1, none⟩ (.slice (some ⟨g', 0, none⟩) (pre.length + 1) cap'))) := by
  have hva := hv.alloc (.cells #[.string x.1, .string x.2] 52)
  have hq1 : w1.heap[w.heap.size]? = some (.cells #[.bool true, .slice va pre.length vc] 45 (0, 0)) := (hg.block _ hva.lt (fun e => own_ne hva.row hva.own (by decide) e.symm)).trans hva.own
  have hbx := hb.alloc (.cells #[.string x.1, .string x.2] 52)
  have hb1 : Boxed w1 (w.heap.size + 1) 24 (.pointer (some ⟨w.heap.size, 0, none⟩)) := (hg.block _ hbx.lt (fun e => own_ne hva.row hbx (by decide) e.symm)).trans hbx
  have hmq : Mq w.heap.size (w1.setCell ⟨w.heap.size, 1, none⟩ (.slice (some ⟨g', 0, none⟩) (pre.length + 1) cap')) w.heap.size (.slice (some ⟨g', 0, none⟩) (pre.length + 1) cap') (pre ++ [x]) := by
    refine ⟨heap_set1 hq1 _, ?_⟩
    have h2 : Row w.heap.size 52 w1 (.slice (some ⟨g', 0, none⟩) (pre.length + 1) cap') (pre ++ [x]) := by simpa [Row, enc_append, enc] using hown
    exact own_keep h2 fun k hk => Below.heap_setCell _ _ _ k (fun e => own_ne h2 hq1 (by decide) (by have e' : k = w.heap.size := e; rw [← e']; exact hk))
  refine ⟨?_, ⟨?_, fun k c t hk hkq hf => ?_, fun k hk => ?_⟩, ⟨⟨_, hmq⟩, (Below.heap_setCell _ _ _ _ (by simp)).trans hb1⟩, ?_⟩
  · refine ((KeepsOthers.alloc W _).trans (KeepsOthers.of_grownBy hg fun j o ej hj => ?_)).trans (KeepsOthers.setCell _ _ _)
    obtain ⟨cur, hc⟩ := own_block hva.row j ej
    rw [hc] at hj; cases hj; rfl
  · have := hg.size
    simp [World.setCell] at this ⊢; omega
  · rw [hv.fp] at hf
    have hlt := (Array.getElem?_eq_some_iff.1 hk).1
    rw [Below.heap_setCell _ _ _ k hkq, hg.block k (by simp; omega) (fun e => hf e.symm), Below.heap_alloc _ _ _ hlt]
  · rw [hmq.fp] at hk
    cases hk
    rw [hv.fp]
    rcases hor with h | h
    · exact .inl h
    · exact .inr (by show W.heap.size ≤ g'; omega)
  · refine ((hB.alloc hB.size _).grown hg (by have := hB.size; simp; omega) (fun k hk => (hva.row.lt k hk).1)).setCell (p := ⟨w.heap.size, 1, none⟩) (Nat.le_refl _) _
/-- A copy: a map of its own that has the same. -/
def Copies (l : List Pr) (w : World) (e : Ending) (w' : World) : Prop := ∃ q v, e = .returned (.pointer (some ⟨q, 0, none⟩)) ∧ Mp w.heap.size w' q v l ∧ Below w.heap.size w w'
set_option maxRecDepth 100000 in
set_option maxHeartbeats 2000000 in
theorem copy_in (n : Nat) (hn : 9 ≤ n) (B p : Nat) (v : Value) (l : List Pr) (hl : l.length ≤ 1000000) (w : World) (h : Mp B w p v l) :
    CallsIn Fence.wide n Try.prog 18 #[.pointer (some ⟨p, 0, none⟩)] w (Copies l w) := by
  have h1 : 1 ≤ n := by omega
  have hf : Fence.wide.fn 24 := trivial
  have hf2 : Fence.wide.fn 19 := trivial
  have hf3 : Fence.wide.fn 7 := trivial
  have hmix : Try.prog.follows .mixedOrders = true := by kernel_rfl
  obtain ⟨i0, hi, hz0, hz1, hz2⟩ := info_parts info_pair
  have Hz0 := Lib.hid hz0; clear hz0
  have Hz1 := Lib.hid hz1; clear hz1
  have Hz2 := Lib.hid hz2; clear hz2
  have Hi := Lib.hid hi; clear hi
  have HM := Lib.hid (made_any p true w h.cell0)
  refine callsIn_of_wp_marks Try.func18 rfl trivial ?_ rfl
  simp only [Try.ntmps18, List.size_toArray, List.length_cons, List.length_nil, Nat.reduceAdd, Nat.reduceSub, Array.replicate_succ, Array.replicate_zero, List.push_toArray, List.append_toArray, List.nil_append, List.cons_append]
  gi_wp2_with (first | (gi_at_call 19; refine (callsIn_wide.2 HM.out).mono ?_; rintro e w' ⟨rfl, rfl⟩) | (gi_at_call 7; refine (callsIn_wide.2 (new_any _)).mono ?_; rintro e w' ⟨rfl, rfl⟩) | (gi_at_call 24; refine (all_call (n - 1) _ _).mono ?_; rintro e w' ⟨rfl, rfl⟩) | fail)
  have m0 := Mq.new w
  have b1 := Boxed.new (w.alloc (.cells #[.bool true, .slice none 0 0] 45)) 24 (.pointer (some ⟨w.heap.size, 0, none⟩))
  have b2 := Boxed.new ((w.alloc (.cells #[.bool true, .slice none 0 0] 45)).alloc (.cells #[.pointer (some ⟨w.heap.size, 0, none⟩)] 24)) 24 (.pointer (some ⟨p, 0, none⟩))
  simp only [World.size_alloc] at b1 b2
  have hB0 : Below w.heap.size w (((w.alloc (.cells #[.bool true, .slice none 0 0] 45)).alloc (.cells #[.pointer (some ⟨w.heap.size, 0, none⟩)] 24)).alloc (.cells #[.pointer (some ⟨p, 0, none⟩)] 24)) := (((Below.refl _ w).alloc (Nat.le_refl _) _).alloc (by simp) _).alloc (by simp; omega) _
  have m2 : Mq w.heap.size (((w.alloc (.cells #[.bool true, .slice none 0 0] 45)).alloc (.cells #[.pointer (some ⟨w.heap.size, 0, none⟩)] 24)).alloc (.cells #[.pointer (some ⟨p, 0, none⟩)] 24)) w.heap.size (.slice none 0 0) [] := (m0.alloc _).alloc _
  have hfp0 : ∀ k, fp w.heap.size 1 (((w.alloc (.cells #[.bool true, .slice none 0 0] 45)).alloc (.cells #[.pointer (some ⟨w.heap.size, 0, none⟩)] 24)).alloc (.cells #[.pointer (some ⟨p, 0, none⟩)] 24)) = some k → k < (((w.alloc (.cells #[.bool true, .slice none 0 0] 45)).alloc (.cells #[.pointer (some ⟨w.heap.size, 0, none⟩)] 24)).alloc (.cells #[.pointer (some ⟨p, 0, none⟩)] 24)).heap.size := fun k hk => by
    rw [m2.fp] at hk; cases hk
  refine wpIn_rangeFunc_ownG rfl h1 (gf := 29) (lb := #[.pointer (some ⟨w.heap.size + 1 + 1, 0, none⟩)]) rfl trivial (enters_of Try.func29 (by kernel_rfl) rfl)
    (all_stops (n - 1) (by omega) (w.heap.size + 1 + 1) B p w.heap.size 1 v l hl _ b2.cell (h.below hB0) (by simp; omega) hfp0) Kp.t (fun W l o o' hle h hc _ => Kp.b W l o o' (by simp at hle; omega) h hc) (Below.refl _ _) (fun _ => rfl)
    (fun pre W => ((∃ v, Mq w.heap.size W w.heap.size v pre) ∧ Boxed W (w.heap.size + 1) 24 (.pointer (some ⟨w.heap.size, 0, none⟩))) ∧ Below w.heap.size w W)
    (fun _ _ _ => False)
    (OwnFrom.and (OwnFrom.and (Own.from (mq_own w.heap.size w.heap.size) _) (Own.from (boxed_own _ _ (fun _ : List Pr => .pointer (some ⟨w.heap.size, 0, none⟩))) _)) (ownFrom_below (Nat.le_refl _) (by simp; omega)))
    (fun _ _ _ _ _ hs _ _ => hs)
    ⟨⟨⟨_, m2⟩, b1.alloc _⟩, hB0⟩
    (fun x => { tmps := #[.pointer (some ⟨p, 0, none⟩), undef, .pointer none, .pointer (some ⟨w.heap.size + 1, 0, none⟩), .string x.1, .string x.2, .pointer (some ⟨p, 0, none⟩), .bool true, .bool false, .pointer (some ⟨w.heap.size, 0, none⟩), .pointer (some ⟨p, 0, none⟩), (.func (.func 29) #[] #[.pointer (some ⟨w.heap.size + 1 + 1, 0, none⟩)]), .string x.1, .string x.2, undef, undef, undef, undef, undef, undef, undef, undef, undef, undef, undef, undef, undef], defers := [] }) ?assign ?body ?done ?stop
  case assign =>
    intro y x W K hK
    gi_wp2
    exact hK
  case body =>
    rintro y pre x W ⟨⟨⟨v, hv⟩, hb⟩, hB⟩ hlt
    obtain ⟨va, vc, rfl⟩ := Row.lens (l := pre) hv.row
    have hlen8 : pre.length ≤ 1000000 := by omega
    gi_wp2
    have hcb := hb.cell
    have hcq := hv.cell1
    have hcq2 := (hv.alloc (.cells #[.string x.1, .string x.2] 52)).cell1
    have hcb2 := (hb.alloc (.cells #[.string x.1, .string x.2] 52)).cell
    have hrow2 : (W.alloc (.cells #[.string x.1, .string x.2] 52)).drew.ownsRow w.heap.size 52 2 (.slice va pre.length vc) pre.length (enc pre) := (hv.alloc (.cells #[.string x.1, .string x.2] 52)).row
    refine regionIn_held (S := fun X => X.cell? ⟨w.heap.size + 1, 0, none⟩ = some (.pointer (some ⟨w.heap.size, 0, none⟩))) hmix (by kernel_rfl) (fun ⟨_, _, h⟩ => h) hcb (fun hS => ?_)
    refine wpAnyH_take (i := 0) (v := .pointer (some ⟨w.heap.size, 0, none⟩)) rfl (by kernel_rfl) (by kernel_rfl) (by kernel_rfl) (fun _ _ _ h => h) (Or.inl ⟨by rfl, fun X hX => ?_⟩) (by assumption) ?_
    · (try dsimp only at hX); go_simp
    simp only [Act.put, List.setIfInBounds_toArray, List.set_cons_zero, List.set_cons_succ]
    refine wpAnyH_take (i := 1) (v := .pointer (some ⟨w.heap.size, 0, none⟩)) rfl (by kernel_rfl) (by kernel_rfl) (by kernel_rfl) (fun _ _ _ h => h) (Or.inl ⟨by rfl, fun X hX => ?_⟩) (by assumption) ?_
    · (try dsimp only at hX); go_simp
    simp only [Act.put, List.setIfInBounds_toArray, List.set_cons_zero, List.set_cons_succ]
    refine wpAnyH_take (i := 2) (v := .pointer (some ⟨w.heap.size, 0, none⟩)) rfl (by kernel_rfl) (by kernel_rfl) (by kernel_rfl) (fun _ _ _ h => h) (Or.inl ⟨by rfl, fun X hX => ?_⟩) (by assumption) ?_
    · (try dsimp only at hX); go_simp
    simp only [Act.put, List.setIfInBounds_toArray, List.set_cons_zero, List.set_cons_succ]
    refine wpAnyH_take (i := 3) (v := .pointer (some ⟨w.heap.size, 1, none⟩)) rfl (by kernel_rfl) (by kernel_rfl) (by kernel_rfl) (fun _ _ _ h => h) (Or.inl ⟨by rfl, fun X hX => ?_⟩) (by assumption) ?_
    · (try dsimp only at hX); go_simp
    simp only [Act.put, List.setIfInBounds_toArray, List.set_cons_zero, List.set_cons_succ]
    refine wpAnyH_take (i := 5) (v := .string x.1) rfl (by kernel_rfl) (by kernel_rfl) (by kernel_rfl) (fun _ _ _ h => h) (Or.inl ⟨by rfl, fun X hX => ?_⟩) (by assumption) ?_
    · (try dsimp only at hX); go_simp
    simp only [Act.put, List.setIfInBounds_toArray, List.set_cons_zero, List.set_cons_succ]
    refine wpAnyH_take (i := 6) (v := .string x.2) rfl (by kernel_rfl) (by kernel_rfl) (by kernel_rfl) (fun _ _ _ h => h) (Or.inl ⟨by rfl, fun X hX => ?_⟩) (by assumption) ?_
    · (try dsimp only at hX); go_simp
    simp only [Act.put, List.setIfInBounds_toArray, List.set_cons_zero, List.set_cons_succ]
    refine wpAnyH_take (i := 7) (v := .agg #[.string x.1, .string x.2]) rfl (by kernel_rfl) (by kernel_rfl) (by kernel_rfl) (fun _ _ _ h => h) (Or.inl ⟨by rfl, fun X hX => ?_⟩) (by assumption) ?_
    · (try dsimp only at hX); go_simp
    simp only [Act.put, List.setIfInBounds_toArray, List.set_cons_zero, List.set_cons_succ]
    refine wpAnyH_ready (rs := [4, 8]) (by kernel_rfl) (by simp) (AllReadyH.cons (o := { dst := some 18, op := Op.load 43 (.tmp 17), type := 43, pos := "dict.go:91", after := #[{ on := 3, ground := Ground.data }], guard := none }) rfl (fun K hK => ?_) (AllReadyH.cons (o := { dst := some 22, op := Op.buildSlice 43 1 #[(0, .tmp 21)], type := 43, pos := "dict.go:91", after := #[{ on := 7, ground := Ground.data }], guard := none }) rfl (fun K hK => ?_) AllReadyH.nil))
    · go_simp
      refine hK.out _ _ hcb (fun _ => ?_)
      clear hK K
      refine wpAnyH_ready (rs := [8]) (by kernel_rfl) (by simp) (AllReadyH.cons (o := { dst := some 22, op := Op.buildSlice 43 1 #[(0, .tmp 21)], type := 43, pos := "dict.go:91", after := #[{ on := 7, ground := Ground.data }], guard := none }) rfl (fun K hK => ?_) AllReadyH.nil)
      go_simp
      refine hK.out _ _ hcb2 (fun _ => ?_)
      clear hK K
      refine wpAnyH_ready (rs := [9]) (by kernel_rfl) (by simp) (AllReadyH.cons rfl (fun K hK => ?_) AllReadyH.nil)
      refine step_append_lies (w := (W.alloc (.cells #[.string x.1, .string x.2] 52)).drew) rfl (.tmp 18) (.tmp 22) 43 rfl w.heap.size 52 i0 (.agg #[.string ⟨#[]⟩, .string ⟨#[]⟩]) 2 32 Try.underlying43 Hi.out Hz0.out Hz1.out Hz2.out rfl (by decide) (.slice va pre.length vc) pre.length (enc pre) ?k3 hrow2 ⟨W.heap.size, 0, none⟩ 1 1 [.string x.1, .string x.2] ?k4 rfl (cell_two_new W _ _ _) (by simp [Value.oneCell']) (by decide) (by unfold maxLen; omega) (by omega) (by have := hB.size; simp [World.drew]; omega) (W.heap.size + 1) (by simp [World.drew]) ?_
      case k3 => simp [go_sem]
      case k4 => simp [go_sem]
      intro g' cap' w1 hown hgrow hor hlt1
      have hgrow2 : (W.alloc (.cells #[.string x.1, .string x.2] 52)).grownBy w1 (Value.slice va pre.length vc).ownBlock := ⟨hgrow.os, hgrow.tape, hgrow.output, hgrow.size, hgrow.block⟩
      have hbk := hgrow2.block (w.heap.size + 1) (by have := hb.lt; simp; omega) (fun e => own_ne hrow2 (hb.alloc (.cells #[.string x.1, .string x.2] 52)) (by decide) e.symm)
      have hqk := hgrow2.block w.heap.size (by have := hv.lt; simp; omega) (fun e => own_ne hrow2 (hv.alloc (.cells #[.string x.1, .string x.2] 52)).own (by decide) e.symm)
      have hb1 : Boxed w1 (w.heap.size + 1) 24 (.pointer (some ⟨w.heap.size, 0, none⟩)) := hbk.trans (hb.alloc _)
      have hq1 := hqk.trans (hv.alloc (.cells #[.string x.1, .string x.2] 52)).own
      have hcb3 := hb1.cell
      have hcq3 : w1.cell? ⟨w.heap.size, 1, none⟩ = some (.slice va pre.length vc) := by simp [World.cell?, hq1]
      have hfq3 : w1.frozen? ⟨w.heap.size, 1, none⟩ = false := by simp [World.frozen?, hq1]
      refine hK.out _ _ hcb3 (fun _ => ?_)
      clear hK K
      refine wpAnyH_take (i := 10) (v := .pointer (some ⟨w.heap.size, 0, none⟩)) rfl (by kernel_rfl) (by kernel_rfl) (by kernel_rfl) (fun _ _ _ h => h) (Or.inl ⟨by rfl, fun X hX => ?_⟩) (by assumption) ?_
      · (try dsimp only at hX); go_simp
      simp only [Act.put, List.setIfInBounds_toArray, List.set_cons_zero, List.set_cons_succ]
      refine wpAnyH_take (i := 11) (v := .pointer (some ⟨w.heap.size, 1, none⟩)) rfl (by kernel_rfl) (by kernel_rfl) (by kernel_rfl) (fun _ _ _ h => h) (Or.inl ⟨by rfl, fun X hX => ?_⟩) (by assumption) ?_
      · (try dsimp only at hX); go_simp
      simp only [Act.put, List.setIfInBounds_toArray, List.set_cons_zero, List.set_cons_succ]
      refine wpAnyH_ready (rs := [12]) (by kernel_rfl) (by simp) (AllReadyH.cons rfl (fun K hK => ?_) AllReadyH.nil)
      have hcb4 : (w1.setCell ⟨w.heap.size, 1, none⟩ (.slice (some ⟨g', 0, none⟩) (pre.length + 1) cap')).cell? ⟨w.heap.size + 1, 0, none⟩ = some (.pointer (some ⟨w.heap.size, 0, none⟩)) := by
        rw [World.cell?_setCell_other w1 ⟨w.heap.size, 1, none⟩ ⟨w.heap.size + 1, 0, none⟩ _ (fun e => by simp only [Addr.mk.injEq] at e; omega)]; exact hcb3
      have HO := Lib.hid hown; clear hown
      have HG := Lib.hid hgrow2; clear hgrow hgrow2
      have HR := Lib.hid hor; clear hor
      go_simp
      refine hK.out _ _ hcb4 (fun _ => wpAnyH_done (by kernel_rfl) ?_ _)
      obtain ⟨z1, z2, z3⟩ := Mq.appended hv hb hB HO.out HG.out HR.out
      exact ⟨z1.from _, z2, z3⟩
    · go_simp
      refine hK.out _ _ hcb2 (fun _ => ?_)
      clear hK K
      refine wpAnyH_ready (rs := [4]) (by kernel_rfl) (by simp) (AllReadyH.cons (o := { dst := some 18, op := Op.load 43 (.tmp 17), type := 43, pos := "dict.go:91", after := #[{ on := 3, ground := Ground.data }], guard := none }) rfl (fun K hK => ?_) AllReadyH.nil)
      go_simp
      refine hK.out _ _ hcb2 (fun _ => ?_)
      clear hK K
      refine wpAnyH_ready (rs := [9]) (by kernel_rfl) (by simp) (AllReadyH.cons rfl (fun K hK => ?_) AllReadyH.nil)
      refine step_append_lies (w := (W.alloc (.cells #[.string x.1, .string x.2] 52)).drew) rfl (.tmp 18) (.tmp 22) 43 rfl w.heap.size 52 i0 (.agg #[.string ⟨#[]⟩, .string ⟨#[]⟩]) 2 32 Try.underlying43 Hi.out Hz0.out Hz1.out Hz2.out rfl (by decide) (.slice va pre.length vc) pre.length (enc pre) ?k3 hrow2 ⟨W.heap.size, 0, none⟩ 1 1 [.string x.1, .string x.2] ?k4 rfl (cell_two_new W _ _ _) (by simp [Value.oneCell']) (by decide) (by unfold maxLen; omega) (by omega) (by have := hB.size; simp [World.drew]; omega) (W.heap.size + 1) (by simp [World.drew]) ?_
      case k3 => simp [go_sem]
      case k4 => simp [go_sem]
      intro g' cap' w1 hown hgrow hor hlt1
      have hgrow2 : (W.alloc (.cells #[.string x.1, .string x.2] 52)).grownBy w1 (Value.slice va pre.length vc).ownBlock := ⟨hgrow.os, hgrow.tape, hgrow.output, hgrow.size, hgrow.block⟩
      have hbk := hgrow2.block (w.heap.size + 1) (by have := hb.lt; simp; omega) (fun e => own_ne hrow2 (hb.alloc (.cells #[.string x.1, .string x.2] 52)) (by decide) e.symm)
      have hqk := hgrow2.block w.heap.size (by have := hv.lt; simp; omega) (fun e => own_ne hrow2 (hv.alloc (.cells #[.string x.1, .string x.2] 52)).own (by decide) e.symm)
      have hb1 : Boxed w1 (w.heap.size + 1) 24 (.pointer (some ⟨w.heap.size, 0, none⟩)) := hbk.trans (hb.alloc _)
      have hq1 := hqk.trans (hv.alloc (.cells #[.string x.1, .string x.2] 52)).own
      have hcb3 := hb1.cell
      have hcq3 : w1.cell? ⟨w.heap.size, 1, none⟩ = some (.slice va pre.length vc) := by simp [World.cell?, hq1]
      have hfq3 : w1.frozen? ⟨w.heap.size, 1, none⟩ = false := by simp [World.frozen?, hq1]
      refine hK.out _ _ hcb3 (fun _ => ?_)
      clear hK K
      refine wpAnyH_take (i := 10) (v := .pointer (some ⟨w.heap.size, 0, none⟩)) rfl (by kernel_rfl) (by kernel_rfl) (by kernel_rfl) (fun _ _ _ h => h) (Or.inl ⟨by rfl, fun X hX => ?_⟩) (by assumption) ?_
      · (try dsimp only at hX); go_simp
      simp only [Act.put, List.setIfInBounds_toArray, List.set_cons_zero, List.set_cons_succ]
      refine wpAnyH_take (i := 11) (v := .pointer (some ⟨w.heap.size, 1, none⟩)) rfl (by kernel_rfl) (by kernel_rfl) (by kernel_rfl) (fun _ _ _ h => h) (Or.inl ⟨by rfl, fun X hX => ?_⟩) (by assumption) ?_
      · (try dsimp only at hX); go_simp
      simp only [Act.put, List.setIfInBounds_toArray, List.set_cons_zero, List.set_cons_succ]
      refine wpAnyH_ready (rs := [12]) (by kernel_rfl) (by simp) (AllReadyH.cons rfl (fun K hK => ?_) AllReadyH.nil)
      have hcb4 : (w1.setCell ⟨w.heap.size, 1, none⟩ (.slice (some ⟨g', 0, none⟩) (pre.length + 1) cap')).cell? ⟨w.heap.size + 1, 0, none⟩ = some (.pointer (some ⟨w.heap.size, 0, none⟩)) := by
        rw [World.cell?_setCell_other w1 ⟨w.heap.size, 1, none⟩ ⟨w.heap.size + 1, 0, none⟩ _ (fun e => by simp only [Addr.mk.injEq] at e; omega)]; exact hcb3
      have HO := Lib.hid hown; clear hown
      have HG := Lib.hid hgrow2; clear hgrow hgrow2
      have HR := Lib.hid hor; clear hor
      go_simp
      refine hK.out _ _ hcb4 (fun _ => wpAnyH_done (by kernel_rfl) ?_ _)
      obtain ⟨z1, z2, z3⟩ := Mq.appended hv hb hB HO.out HG.out HR.out
      exact ⟨z1.from _, z2, z3⟩
  case done =>
    rintro D ys W hD rfl ⟨⟨⟨v, hv⟩, hb⟩, hB⟩ hK
    have hc := hb.cell
    have hsrt := Lib.hid h.srt
    clear h
    gi_wp2
    refine ⟨by simp, .inl ⟨_, _, rfl, run_takeDeferred hK, ?_⟩⟩
    obtain ⟨v2, hv2⟩ := (mq_own w.heap.size w.heap.size).putObj (s := ys) (.deferred none) ⟨v, hv⟩ hK rfl
    exact ⟨_, results_tmp rfl _ _ _, _, v2, rfl, ⟨Nat.le_refl _, hv2.own, hv2.row, hsrt.out⟩, hB.trans (belowK_b (w := w) (Nat.le_refl _) W D _ _ (by simp at hD; omega) hK rfl rfl)⟩
  case stop =>
    rintro D c pre W _ _ h _
    exact h.elim
theorem copy_any (B p : Nat) (v : Value) (l : List Pr) (w : World) (h : Mp B w p v l) (hl : l.length ≤ 1000000) :
    Calls Try.prog 18 #[.pointer (some ⟨p, 0, none⟩)] w (Copies l w) :=
  (callsIn_wide (n := 9)).1 (copy_in 9 (by omega) B p v l hl w h)
end Go.Proofs.Ytclkpfjihdcnfaa
