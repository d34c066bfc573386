/-
  The walks of dictOf and pairsOf: a map of a list of pairs, and the list of a map. By an AI agent.
-/
import Derived.Test.YtigopifioijjlaaSpecParts
set_option linter.unusedSimpArgs false
namespace Go.Proofs.Ytigopifioijjlaa
open Go.RowKit Go.Shelf
open Dc (Pr Rpl)
attribute [local go_sem] Oper.semAt_some
/-- A call answers a map of its own. -/
def Dicts (l : List Pr) (w : World) (e : Ending) (w' : World) : Prop := ∃ p v, e = .returned (.pointer (some ⟨p, 0, none⟩)) ∧ Mp w.heap.size w' p v l ∧ Below w.heap.size w w'
theorem take_put {l : List Pr} (h : Dc.Srt l) (k : Nat) (hk : k < l.length) : Dc.put (l.take k) l[k].1 l[k].2 = l.take (k + 1) := by
  have h1 := Dc.puts_take h k (by omega)
  have h2 := Dc.puts_take h (k + 1) (by omega)
  rw [← List.take_append_getElem hk, Dc.puts_snoc, h1] at h2
  rw [← List.take_append_getElem hk]
  exact h2
set_option maxRecDepth 100000 in
set_option maxHeartbeats 2000000 in
theorem dictOf_any (v : Value) (l : List Pr) (w : World) (h : Lst w v l) (hl : l.length ≤ 1000000) (hs : Dc.Srt l) :
    Calls Try.prog 26 #[v] w (Dicts l w) := by
  obtain ⟨va, vc, rfl, hp⟩ := h
  have HR := Lib.hid hp; clear hp
  have HS := Lib.hid hs; clear hs
  go_enter Try.func26, Try.ntmps26
  go_wp2_with fail
  refine (new_any _).mono ?_
  rintro e w1 ⟨rfl, rfl⟩
  have hm0 : Mp w.heap.size (w.alloc (.cells #[.bool true, .slice none 0 0] 67)) w.heap.size (.slice none 0 0) (l.take 0) := Mp.new w
  have hB0 : Below w.heap.size w (w.alloc (.cells #[.bool true, .slice none 0 0] 67)) := (Below.refl _ w).alloc (Nat.le_refl _) _
  go_wp2
  go_loopw [5, 9] (fun _ i wr => ∃ (k : Nat) (u : Value), k ≤ l.length ∧ i = .int .i64 k ∧ Mp w.heap.size wr w.heap.size u (l.take k) ∧ Below w.heap.size w wr) (fun _ i _ => l.length - (intOf i).toNat)
  case atStart => exact ⟨0, _, by omega, rfl, hm0, hB0⟩
  case round =>
    obtain ⟨k, u, hk, rfl, hm, hB⟩ := hrel
    clear hm0 hB0
    by_cases hlt : k < l.length
    · obtain ⟨g, off, rfl, hc⟩ := HR.out.at hlt
      obtain ⟨d1, d2⟩ := hc k hlt wr hB
      have hltZ : (k : Int) < (l.length : Int) := by omega
      have hP := put_any w.heap.size w.heap.size u (l.take k) l[k].1 l[k].2 _ (hm.alloc (.cells #[.string l[k].1, .string l[k].2] 46)) (by simp; omega)
      rw [take_put HS.out k hlt] at hP
      have HP := Lib.hid hP; clear hP
      have HM := Lib.hid hm; clear hm
      clear hc
      go_wp2_with fail
      with_reducible refine HP.out.mono ?_
      rintro e w2 ⟨rfl, u2, hm2, hs2⟩
      have hb2 := hs2.below (HM.out.alloc _)
      go_wp2
      go_roundw
      case rel => exact ⟨k + 1, u2, by omega, by go_num, hm2, (hB.alloc hB.size _).trans hb2⟩
      case measure => simp [intOf]; omega
    · obtain rfl : k = l.length := by omega
      rw [List.take_length] at hm
      go_wp2
      go_ret
      exact ⟨_, _, rfl, hm, hB⟩
set_option maxRecDepth 100000 in
set_option maxHeartbeats 2000000 in
theorem pairsOf_in (n : Nat) (hn : 9 ≤ n) (B p : Nat) (v0 : Value) (l : List Pr) (hl : l.length ≤ 1000000) (w : World) (h : Mp B w p v0 l) :
    CallsIn Fence.wide n Try.prog 30 #[.pointer (some ⟨p, 0, none⟩)] w (Tells l w) := by
  have h1 : 1 ≤ n := by omega
  have hf : Fence.wide.fn 36 := trivial
  have hnil := func_nil
  obtain ⟨i0, hi, hz0, hz1, hz2⟩ := info_parts info_api
  have Hz0 := Lib.hid hz0; clear hz0
  have Hz1 := Lib.hid hz1; clear hz1
  have Hz2 := Lib.hid hz2; clear hz2
  have Hi := Lib.hid hi; clear hi
  have Hh := Lib.hid h; clear h
  refine callsIn_of_wp_marks Try.func30 rfl trivial ?_ rfl
  simp only [Try.ntmps30, List.size_toArray, List.length_cons, List.length_nil, Nat.reduceAdd, Nat.reduceSub, Array.replicate_succ, Array.replicate_zero, List.push_toArray, List.append_toArray, List.nil_append, List.cons_append]
  gi_wp2_with (gi_at_call 36; refine (all_call (n - 1) _ _).mono ?_; rintro e w' ⟨rfl, rfl⟩)
  have b2 := Boxed.new w 24 (.slice none 0 0)
  have r0 := World.ownsRow_nil (w.alloc (.cells #[.slice none 0 0] 24)) w.heap.size 46 2
  have b3 := Boxed.new (w.alloc (.cells #[.slice none 0 0] 24)) 52 (.pointer (some ⟨p, 0, none⟩))
  simp only [World.size_alloc] at r0 b2 b3
  have hB0 : Below w.heap.size w ((w.alloc (.cells #[.slice none 0 0] 24)).alloc (.cells #[.pointer (some ⟨p, 0, none⟩)] 52)) := ((Below.refl _ w).alloc (Nat.le_refl _) _).alloc (by simp) _
  have hfp0 : ∀ k, fp w.heap.size 0 ((w.alloc (.cells #[.slice none 0 0] 24)).alloc (.cells #[.pointer (some ⟨p, 0, none⟩)] 52)) = some k → k < ((w.alloc (.cells #[.slice none 0 0] 24)).alloc (.cells #[.pointer (some ⟨p, 0, none⟩)] 52)).heap.size := fun k hk => by
    unfold fp at hk
    rw [(b2.alloc _).cell] at hk
    cases hk
  refine wpIn_rangeFunc_ownG rfl h1 (gf := 42) (lb := #[.pointer (some ⟨w.heap.size + 1, 0, none⟩)]) rfl trivial (enters_of Try.func42 (by kernel_rfl) rfl)
    (all_stops (n - 1) (by omega) (w.heap.size + 1) B p w.heap.size 0 v0 l hl _ b3.cell (Hh.out.below hB0) (by simp; omega) hfp0) Kp.t (fun W l o o' hle h hc _ => Kp.b W l o o' (by simp at hle; omega) h hc) (Below.refl _ _) (fun _ => rfl)
    (fun pre W => (∃ v, Boxed W w.heap.size 24 v ∧ W.ownsRow w.heap.size 46 2 v pre.length (enc pre) ∧ True) ∧ Below w.heap.size w W)
    (fun _ _ _ => False)
    (OwnFrom.and (Own.from (holdsRow_own w.heap.size w.heap.size 24 46 2 (fun pre : List Pr => pre.length) (fun pre : List Pr => enc pre) (fun _ _ => True)) _) (ownFrom_below (Nat.le_refl _) (by simp; omega)))
    (fun _ _ _ _ _ hs _ _ => hs)
    ⟨⟨_, b2.alloc _, r0.alloc _, trivial⟩, hB0⟩
    (fun x => { tmps := #[.pointer (some ⟨p, 0, none⟩), undef, .slice none 0 0, .pointer (some ⟨w.heap.size, 0, none⟩), .string x.1, .string x.2, .pointer (some ⟨p, 0, none⟩), (.func (.func 42) #[] #[.pointer (some ⟨w.heap.size + 1, 0, none⟩)]), .string x.1, .string x.2, undef, undef, undef, undef, undef, undef, undef], defers := [] }) ?assign ?body ?done ?stop
  case assign =>
    intro y x W K hK
    gi_wp2
    exact hK
  case body =>
    rintro y pre x W ⟨⟨v, hv, hrow, -⟩, hB⟩ hlt
    have hc := hv.cell
    have hfz := hv.frozen
    obtain ⟨va, vc, rfl⟩ := Row.lens (l := pre) hrow
    have hlen8 : pre.length ≤ 1000000 := by omega
    gi_wp2_with (gi_at_builtin; refine wpListIn_append_own_at _ rfl _ _ 24 rfl w.heap.size 46 i0 (.agg #[.string ⟨#[]⟩, .string ⟨#[]⟩]) 2 32 Try.underlying24 Hi.out Hz0.out Hz1.out Hz2.out rfl (by decide) _ _ _ rfl (hrow.alloc _) ⟨W.heap.size, 0, none⟩ 1 1 [.string x.1, .string x.2] rfl rfl (cell_two_new _ _ _ _) (by simp [Value.oneCell']) (by unfold maxLen; omega) (by omega) (by have := hB.size; simp; omega) ?_; intro v' w1 hown' hgrow _ hat; obtain ⟨g', cap', rfl⟩ := ownsRow_succ hown'; obtain ⟨hv1, hv2, hr2, hk2, hb2⟩ := hv.appended (by decide) hrow hB.size (by omega) hown' hgrow; have hc1 := hv1.cell; have hf1 := hv1.frozen; have hc2 := hv2.cell)
    have hkp := Kp.appended hv hgrow hat hv2
    exact ⟨hk2.from _, hkp, ⟨_, hv2, by simpa [enc_append, enc] using hr2, trivial⟩, hB.trans hb2⟩
  case done =>
    rintro D ys W hD rfl ⟨⟨v, hv, hrow, -⟩, hB⟩ hK
    have hc := hv.cell
    have hrow' : Row w.heap.size 46 W v ys := hrow
    clear hrow
    gi_wp2
    refine ⟨by simp, .inl ⟨_, _, rfl, run_takeDeferred hK, ?_⟩⟩
    exact ⟨_, results_tmp rfl _ _ _, v, rfl, ownsRow_putObj hrow' _ hK rfl, hB.trans (belowK_b (w := w) (Nat.le_refl _) W D _ _ (by simp at hD; omega) hK rfl rfl)⟩
  case stop =>
    rintro D c pre W _ _ h _
    exact h.elim
theorem pairsOf_any (B p : Nat) (v : Value) (l : List Pr) (w : World) (h : Mp B w p v l) (hl : l.length ≤ 1000000) :
    Calls Try.prog 30 #[.pointer (some ⟨p, 0, none⟩)] w (Tells l w) :=
  (callsIn_wide (n := 9)).1 (pairsOf_in 9 (by omega) B p v l hl w h)
end Go.Proofs.Ytigopifioijjlaa
