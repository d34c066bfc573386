/-
  The walks of slices.AppendSeq, slices.Collect and maps.Keys: the keys in a new row. By an AI agent.
-/
import Derived.Test.YthldjdkjgiebaaaArenaKeys
import Derived.Test.YthldjdkjgiebaaaArenaAlloc
set_option linter.unusedSimpArgs false
namespace Go.Proofs.Ythldjdkjgiebaaa
open Go.RowKit Go.Shelf Go.Maps
open Mm (Mem Blk)
attribute [local go_sem] Oper.semAt_some
/-- Words as cells. -/
def us (ss : List Nat) : List Value := ss.map ku
/-- A new row of words; nil just if there is none. -/
def Lists (S : List Nat → Prop) (w : World) (e : Ending) (w' : World) : Prop := ∃ v ss, e = .returned v ∧ S ss ∧ w'.ownsRow w.heap.size 35 1 v ss.length (us ss) ∧ (v = .slice none 0 0 ↔ ss = []) ∧ Below w.heap.size w w'
theorem walks_appended {W w1 : World} {b : Nat} {t : TypeId} {v v' : Value} {tmp : Obj} (hv : Boxed W b t v) (hgrow : (W.alloc tmp).grownBy w1 v.ownBlock) (hrow : ∀ k, v.ownBlock = some k → ∃ c e, W.heap[k]? = some (.cells c e (0, 0))) :
    KeepsWalks W (w1.setCell ⟨b, 0, none⟩ v') := by
  refine ⟨by have := hgrow.size; simp [World.setCell] at this ⊢; omega, fun k o hk hw => ?_⟩
  have hlt := (Array.getElem?_eq_some_iff.1 hk).1
  have hkb : k ≠ b := fun e => by
    obtain ⟨o', h1, h2⟩ := not_walk_of_cell hv.cell
    simp only at h1
    rw [← e, hk] at h1
    cases h1
    rw [hw] at h2
    cases h2
  have hkr : some k ≠ v.ownBlock := fun e => by
    obtain ⟨c, e', h1⟩ := hrow k e.symm
    rw [hk] at h1
    cases h1
    cases hw
  rw [Below.heap_setCell _ _ _ k hkb, hgrow.block k (by simp; omega) hkr, Below.heap_alloc _ _ _ hlt]
  exact hk
theorem own_block' {w : World} {base : Nat} {e : TypeId} {size : Nat} {v : Value} {n : Nat} {xs : List Value} (h : w.ownsRow base e size v n xs) (k : Nat) (hk : v.ownBlock = some k) : ∃ c e, w.heap[k]? = some (.cells c e (0, 0)) := by
  rcases h.2 with ⟨rfl, _⟩ | ⟨g, cap, cur, rfl, _, hg, _⟩
  · cases hk
  · cases hk; exact ⟨cur, e, hg⟩
set_option maxRecDepth 100000 in
set_option maxHeartbeats 2000000 in
theorem aseq_in (n : Nat) (hn : 9 ≤ n) (b1 N : Nat) (hN : N ≤ 1000000000000) (S : List Nat → Prop) (w : World)
    (hseq : ∀ w1, Below w.heap.size w w1 → SeqStopsK Fence.wide (n - 1) Try.prog 41 #[.pointer (some ⟨b1, 0, none⟩)] (fun x : Nat => #[Value.int .u64 (x : Int)]) KeepsWalks S (fun _ => True) N w1) :
    CallsIn Fence.wide n Try.prog 53 #[.slice none 0 0, .func (.func 41) #[] #[.pointer (some ⟨b1, 0, none⟩)]] w (Lists S w) := by
  have h1 : 1 ≤ n := by omega
  obtain ⟨i0, hi, hz0, hz1, hz2⟩ := info_parts info_u64
  have Hz0 := Lib.hid hz0; clear hz0
  have Hz1 := Lib.hid hz1; clear hz1
  have Hz2 := Lib.hid hz2; clear hz2
  have Hi := Lib.hid hi; clear hi
  have HS := Lib.hid hseq; clear hseq
  refine callsIn_of_wp_marks Try.func53 rfl trivial ?_ rfl
  simp only [Try.ntmps53, List.size_toArray, List.length_cons, List.length_nil, Nat.reduceAdd, Nat.reduceSub, Array.replicate_succ, Array.replicate_zero, List.push_toArray, List.append_toArray, List.nil_append, List.cons_append]
  gi_wp2
  have b0 := Boxed.new w 27 (.slice none 0 0)
  have r0 := World.ownsRow_nil (w.alloc (.cells #[.slice none 0 0] 27)) w.heap.size 35 1
  have hB0 : Below w.heap.size w (w.alloc (.cells #[.slice none 0 0] 27)) := (Below.refl _ w).alloc (Nat.le_refl _) _
  refine wpIn_rangeFunc_ownG rfl h1 (gf := 41) (lb := #[.pointer (some ⟨b1, 0, none⟩)]) rfl trivial (enters_of Try.func41 (by kernel_rfl) rfl)
    (HS.out _ hB0) walksK_t walksK_b (Below.refl _ _) (fun _ => rfl)
    (fun pre W => ((∃ v, Boxed W w.heap.size 27 v ∧ W.ownsRow w.heap.size 35 1 v pre.length (us pre) ∧ (v = .slice none 0 0 ↔ pre = [])) ∧ Below w.heap.size w W))
    (fun _ _ _ => False)
    (OwnFrom.and (Own.from (holdsRow_own w.heap.size w.heap.size 27 35 1 (fun pre : List Nat => pre.length) (fun pre : List Nat => us pre) (fun pre v => v = .slice none 0 0 ↔ pre = [])) _) (ownFrom_below (Nat.le_refl _) (by simp)))
    (fun _ _ _ _ _ hs _ _ => hs)
    ⟨⟨_, b0, r0, by simp⟩, hB0⟩
    (fun x => { tmps := #[.slice none 0 0, .func (.func 41) #[] #[.pointer (some ⟨b1, 0, none⟩)], .pointer (some ⟨w.heap.size, 0, none⟩), undef, .slice none 0 0, .int .u64 (x : Int), .func (.func 41) #[] #[.pointer (some ⟨b1, 0, none⟩)], .int .u64 (x : Int), undef, undef, undef, undef, undef], defers := [] }) ?assign ?body ?done ?stop
  case assign =>
    intro y x W K hK
    gi_wp2
    exact hK
  case body =>
    rintro y pre x W ⟨⟨v, hv, hrow, hnil⟩, hB⟩ hlt
    have hc := hv.cell
    have hfz := hv.frozen
    have hlen8 : pre.length ≤ 1000000000000 := by omega
    have HN := Lib.hid hnil; clear hnil
    gi_wp2_with (gi_at_builtin; refine wpListIn_append_own_at _ rfl _ _ 27 rfl w.heap.size 35 i0 (.int .u64 0) 1 8 Try.underlying27 Hi.out Hz0.out Hz1.out Hz2.out rfl (by decide) _ _ _ rfl (hrow.alloc _) ⟨W.heap.size, 0, none⟩ 1 1 [.int .u64 (x : Int)] rfl rfl (cell_one_new _ _ _) (by simp [Value.oneCell']) (by unfold maxLen; omega) (by omega) (by have := hB.size; simp; omega) ?_; intro v' w1 hown' hgrow hnil' hat; obtain ⟨g', cap', rfl⟩ := ownsRow_succ hown'; obtain ⟨hv1, hv2, hr2, hk2, hb2⟩ := hv.appended (by decide) hrow hB.size (by omega) hown' hgrow; have hc1 := hv1.cell; have hf1 := hv1.frozen; have hc2 := hv2.cell)
    exact ⟨hk2.from _, walks_appended hv hgrow (own_block' hrow), ⟨_, hv2, by simpa [us, ku] using hr2, by simp⟩, hB.trans hb2⟩
  case done =>
    rintro D ss W hD hS ⟨⟨v, hv, hrow, hnil⟩, hB⟩ hK
    have hc := hv.cell
    have HN := Lib.hid hnil; clear hnil
    gi_wp2
    refine ⟨by simp, .inl ⟨_, _, rfl, run_takeDeferred hK, ?_⟩⟩
    exact ⟨_, results_tmp rfl _ _ _, v, ss, rfl, hS, ownsRow_putObj hrow _ hK rfl, HN.out, hB.trans (belowK_b (w := w) (Nat.le_refl _) W D _ _ (by simp at hD; omega) hK rfl rfl)⟩
  case stop =>
    rintro D c pre W _ _ h _
    exact h.elim
theorem aseq_any (b1 m nn : Nat) (D0 : DataW Value) (w : World) (h1 : w.cell? ⟨b1, 0, none⟩ = some (.map (some m))) (hown : w.ownsMap Try.prog 35 hv m nn D0) (hnn : nn ≤ 1000000000000) :
    Calls Try.prog 53 #[.slice none 0 0, .func (.func 41) #[] #[.pointer (some ⟨b1, 0, none⟩)]] w (Lists (Keyz D0) w) :=
  (callsIn_wide (n := 9)).1 (aseq_in 9 (by omega) b1 (Maps.size D0) (Nat.le_trans hown.size_le hnn) (Keyz D0) w fun w1 hb => keys_stops 8 (by omega) b1 m nn D0 w1 ((hb.cell (p := ⟨b1, 0, none⟩) (World.block_lt_of_cell? _ _ h1)).trans h1) (map_keep hown (hb.block m hown.lt)))
set_option maxHeartbeats 1000000 in
theorem keys_any (P : Option Nat) (w : World) :
    Calls Try.prog 27 #[.map P] w fun e w' => e = .returned (.func (.func 41) #[] #[.pointer (some ⟨w.heap.size, 0, none⟩)]) ∧ w.alloc (.cells #[.map P] 64) = w' := by
  go_enter Try.func27, Try.ntmps27
  go_wp2
  go_ret
  exact ⟨rfl, rfl⟩
set_option maxHeartbeats 1000000 in
theorem collect_any (b1 m nn : Nat) (D0 : DataW Value) (w : World) (h1 : w.cell? ⟨b1, 0, none⟩ = some (.map (some m))) (hown : w.ownsMap Try.prog 35 hv m nn D0) (hnn : nn ≤ 1000000000000) :
    Calls Try.prog 39 #[.func (.func 41) #[] #[.pointer (some ⟨b1, 0, none⟩)]] w (Lists (Keyz D0) w) := by
  have K := Lib.hid (aseq_any b1 m nn D0 w h1 hown hnn)
  clear h1 hown
  go_enter Try.func39, Try.ntmps39
  go_wp2_with fail
  with_reducible refine K.out.mono ?_
  rintro e w' ⟨v, ss, rfl, h⟩
  have H := Lib.hid h; clear h
  go_wp2_with fail
  go_ret
  exact ⟨v, ss, rfl, H.out⟩
end Go.Proofs.Ythldjdkjgiebaaa
