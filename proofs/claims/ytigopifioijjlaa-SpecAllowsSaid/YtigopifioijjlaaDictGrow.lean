/-
  The walk of slices.Insert of one pair into a row without room; all roads together. By an AI agent.
-/
import Derived.Test.YtigopifioijjlaaDictInsert
set_option linter.unusedSimpArgs false
namespace Go.Proofs.Ytigopifioijjlaa
open Go.RowKit
open Dc (Pr)
theorem grow_cells (a c Z : List Value) (k x : Value) (hZ : 2 + c.length ≤ Z.length) : splice (splice (a ++ Z) a.length [k, x]) (a.length + 2) c = a ++ (k :: x :: c) ++ Z.drop (2 + c.length) := by
  have h1 : Z = Z.take 2 ++ ((Z.drop 2).take c.length ++ (Z.drop 2).drop c.length) := by rw [List.take_append_drop, List.take_append_drop]
  have l1 : (Z.take 2).length = 2 := by simp; omega
  have l2 : ((Z.drop 2).take c.length).length = c.length := by simp; omega
  have e1 := splice_at a (Z.take 2) ((Z.drop 2).take c.length ++ (Z.drop 2).drop c.length) [k, x] a.length rfl (by simp [l1])
  rw [List.append_assoc, ← h1] at e1
  rw [e1]
  have e2 := splice_at (a ++ [k, x]) ((Z.drop 2).take c.length) ((Z.drop 2).drop c.length) c (a.length + 2) (by simp) l2.symm
  rw [List.append_assoc] at e2
  rw [e2]
  simp [List.drop_drop]
set_option maxRecDepth 100000 in
set_option maxHeartbeats 4000000 in
theorem insert_grow (B vb g : Nat) (A C : List Pr) (q : Pr) (w : World) (hB : B ≤ w.heap.size) (hl : (A ++ C).length ≤ 1000000) (hC : 0 < C.length)
    (hg : w.heap[g]? = some (.cells (enc (A ++ C)).toArray 64 (0, 0)))
    (hv : w.heap[vb]? = some (.cells #[.string q.1, .string q.2] 64 (0, 0))) :
    Calls Try.prog 38 #[.slice (some ⟨g, 0, none⟩) (A ++ C).length (A ++ C).length, .int .i64 (A.length : Int), .slice (some ⟨vb, 0, none⟩) 1 1] w (Ins B (.slice (some ⟨g, 0, none⟩) (A ++ C).length (A ++ C).length) (A ++ q :: C) w) := by
  have hmix : Try.prog.follows .mixedOrders = true := by kernel_rfl
  obtain ⟨i0, hi0, hz0, hz1, hz2⟩ := info_parts info_pair
  rw [enc_append] at hg
  have eL : (A ++ C).length = A.length + C.length := by simp
  rw [eL] at hl ⊢
  have hgl : g < w.heap.size := (Array.getElem?_eq_some_iff.1 hg).1
  have hvl : vb < w.heap.size := (Array.getElem?_eq_some_iff.1 hv).1
  have HG := Lib.hid hg; clear hg
  have HV := Lib.hid hv; clear hv
  clear eL
  have hcA : ∀ j u, (enc A)[j]? = some u → w.cell? ((⟨g, 0, none⟩ : Addr).add j) = some u := cells_at (X := []) (Y := enc A) (Z := enc C) (by simpa using HG.out) rfl
  have hcC : ∀ j u, (enc C)[j]? = some u → w.cell? ((⟨g, A.length * 2, none⟩ : Addr).add j) = some u := cells_at (X := enc A) (Y := enc C) (Z := []) (by simpa using HG.out) (by simp [enc_len])
  have HCC := Lib.hid hcC; clear hcC
  have HLC := Lib.hid (enc_len C)
  have HLA := Lib.hid (enc_len A)
  generalize hn : A.length = i at *
  generalize hm : C.length = m at *
  have Hn := Lib.hid hn; clear hn
  have Hm := Lib.hid hm; clear hm
  have hold : (Builtin.firstCells i0.size i (.slice (some ⟨g, 0, none⟩) i (i + m))).run Try.prog w.drew = .ok (enc A).toArray w.drew := by
    rw [hz1]
    exact run_firstCells_some w.drew 2 i ⟨g, 0, none⟩ i (i + m) (enc A) HLA.out hcA
  have hrz : ∀ ty, (Builtin.append_ #[65, 3] ty #[.slice (some ⟨g, 0, none⟩) i (i + m), .int .i64 ((m : Int) + 1)]).run Try.prog w =
      .ok (.slice (some ⟨w.heap.size, 0, none⟩) (i + m + 1) (grownCap w (i + m + 1) (i + m) 64)) (w.drew.alloc (.cells ((enc A).toArray ++ Builtin.zeroCells (Value.agg #[.string ⟨#[]⟩, .string ⟨#[]⟩]).cells (m + 1) ++ Builtin.zeroCells (Value.agg #[.string ⟨#[]⟩, .string ⟨#[]⟩]).cells (grownCap w (i + m + 1) (i + m) 64 - (i + m + 1))) 64)) := fun ty => by
    have h := Lib.run_append_grow_zeros w 65 3 ty 64 i0 _ .i64 .i64 Try.underlying65 Try.underlying3 hi0 hz0 (some ⟨g, 0, none⟩) i (i + m) (enc A) hold (m + 1) (by omega) (by omega) (by omega) (by omega) (by rw [hz2]; omega) (by rw [hz2]; exact growslice_fits (by omega) (by omega))
    rw [show i + (m + 1) = i + m + 1 by omega] at h
    exact h
  have hG1 := grownCap_ge w (i + m + 1) (i + m) 64
  have hG2 : grownCap w (i + m + 1) (i + m) 64 ≤ maxLen := grownCap_le_maxLen w (i + m + 1) (i + m) 64 (by unfold maxLen; omega)
  generalize grownCap w (i + m + 1) (i + m) 64 = G at hrz hG1 hG2
  obtain ⟨Z, hZ, hZl⟩ : ∃ Z : List Value, (enc A).toArray ++ Builtin.zeroCells (Value.agg #[.string ⟨#[]⟩, .string ⟨#[]⟩]).cells (m + 1) ++ Builtin.zeroCells (Value.agg #[.string ⟨#[]⟩, .string ⟨#[]⟩]).cells (G - (i + m + 1)) = (enc A ++ Z).toArray ∧ Z.length = (G - i) * 2 := by
    refine ⟨(Builtin.zeroCells (Value.agg #[.string ⟨#[]⟩, .string ⟨#[]⟩]).cells (m + 1) ++ Builtin.zeroCells (Value.agg #[.string ⟨#[]⟩, .string ⟨#[]⟩]).cells (G - (i + m + 1))).toList, ?_, ?_⟩
    · rw [← Array.toList_inj]; simp
    · have e2 : (Value.agg #[.string ⟨#[]⟩, .string ⟨#[]⟩]).cells.size = 2 := by kernel_rfl
      simp only [Array.length_toList, Array.size_append, size_zeroCells, e2]
      omega
  rw [hZ] at hrz
  clear hZ
  have hG63 : G ≤ 9223372036854775807 := by unfold maxLen at hG2; omega
  obtain ⟨W1, hW1⟩ : ∃ W1, W1 = w.drew.alloc (.cells (enc A ++ Z).toArray 64) := ⟨_, rfl⟩
  rw [← hW1] at hrz
  have HG1 : Hid (W1.heap[w.heap.size]? = some (.cells (enc A ++ Z).toArray 64 (0, 0))) := Lib.hid (by rw [hW1]; exact heap_alloc_new w.drew _)
  have HB1 : Hid (Below w.heap.size w W1) := Lib.hid (by rw [hW1]; exact ((Below.refl _ w).drew).alloc (Nat.le_refl _) _)
  clear hW1
  have HRZ := Lib.hid hrz; clear hrz
  clear hold hcA
  have Hi0 := Lib.hid hi0; clear hi0 hz0 hz1 hz2
  have HZl := Lib.hid hZl; clear hZl
  have f0 : ¬ ((i : Int) = (i : Int) + (m : Int)) := by omega
  have f1 : IntKind.i64.wrap ((i : Int) + 1) = (i : Int) + 1 := by rw [IntKind.wrap_i64]; omega
  have f2 : IntKind.i64.wrap ((i : Int) + (m : Int) + 1) = (i : Int) + (m : Int) + 1 := by rw [IntKind.wrap_i64]; omega
  have f3 : ((i : Int) + 1).toNat = i + 1 := by omega
  have f4 : (0 : Int) ≤ (i : Int) + 1 := by omega
  have f5 : (i : Int) ≤ (i : Int) + (m : Int) := by omega
  have f6 : ¬ (i + m = i) := by omega
  have f7 : ¬ (G = i) := by omega
  have f8 : ¬ (G = i + 1) := by omega
  have f9 : (i : Int) + 1 ≤ (i : Int) + (m : Int) + 1 := by omega
  have f10 : (i : Int) ≤ (i : Int) + (m : Int) + 1 := by omega
  have f11 : IntKind.i64.wrap ((i : Int) + (m : Int) + 1 - (i : Int)) = (m : Int) + 1 := by rw [IntKind.wrap_i64]; omega
  have f12 : (i : Int) + (m : Int) + 1 - (i : Int) = (m : Int) + 1 := by omega
  have f13 : (i : Int) + (m : Int) < (i : Int) + (m : Int) + 1 := by omega
  go_enter Try.func38, Try.ntmps38
  go_wp2_with (at_builtin; refine Lib.wpList_append_run _ rfl _ _ _ _ rfl _ _ rfl rfl _ _ (HRZ.out _) ?_)
  have hnv : ∀ j u, [Value.string q.1, Value.string q.2][j]? = some u → W1.cell? ((⟨vb, 0, none⟩ : Addr).add j) = some u := by
    have hvw : W1.heap[vb]? = some (.cells ([] ++ [Value.string q.1, Value.string q.2] ++ []).toArray 64 (0, 0)) := by
      rw [HB1.out.block vb hvl]; simpa using HV.out
    exact cells_at hvw rfl
  have l1 : (enc A ++ Z).length = G * 2 := by rw [List.length_append, HLA.out, HZl.out]; omega
  have hc1 := run_copy2 W1 3 w.heap.size (i * 2) (i + m + 1 - i) (G - i) ⟨vb, 0, none⟩ 1 1 (enc A ++ Z) [Value.string q.1, Value.string q.2] HG1.out (by rw [show Nat.min 1 (i + m + 1 - i) = 1 from Nat.min_eq_left (by omega)]; rfl) hnv (by rw [l1]; simp; omega) (by simp [Value.oneCell'])
  rw [hc1]
  have HL1 := Lib.hid (lay_setRow HG1.out (splice (enc A ++ Z) (i * 2) [Value.string q.1, Value.string q.2]))
  generalize W1.setRow w.heap.size (splice (enc A ++ Z) (i * 2) [Value.string q.1, Value.string q.2]).toArray = w2 at HL1 ⊢
  have l2 : (splice (enc A ++ Z) (i * 2) [Value.string q.1, Value.string q.2]).length = G * 2 := by rw [length_splice _ _ _ (by rw [l1]; simp; omega), l1]
  obtain ⟨L1, HE⟩ : ∃ L1, Hid (L1 = splice (enc A ++ Z) (i * 2) [Value.string q.1, Value.string q.2]) := ⟨_, Lib.hid rfl⟩
  rw [← HE.out] at HL1 l2
  have Hl2 := Lib.hid l2; clear l2 l1 hc1 hnv
  have hB2 : Below w.heap.size w w2 := HB1.out.grown HL1.out.2 HB1.out.size (fun k hk => by cases hk; exact Nat.le_refl _)
  have hcc : ∀ j u, (enc C)[j]? = some u → w2.drew.cell? ((⟨g, i * 2, none⟩ : Addr).add j) = some u := fun j u hj => by
    have := HCC.out j u hj
    rw [lit_add] at this ⊢
    exact (hB2.drew.cell (p := ⟨g, i * 2 + j, none⟩) hgl).trans this
  have HC2 := Lib.hid hcc; clear hcc
  have HB2 := Lib.hid hB2; clear hB2
  go_wp2
  go_region_law (
    refine step_copy2 (g := w.heap.size) (off := (i + 1) * 2) (dLen := m) (dCap := G - (i + 1)) (ad := ⟨g, i * 2, none⟩) (sLen := m) (sCap := m) (cur := L1) (cs := enc C) ?k1 (.tmp 50) (.tmp 53) ?k2 ?k3 ?k4 ?k5 ?k6 HC2.out ?k7 (enc_one C) ?_
    case k1 => rfl
    case k2 => rfl
    case k3 => first | (simp [go_sem]; done) | (simp [go_sem]; omega)
    case k4 => first | (simp [go_sem]; done) | (simp [go_sem]; omega)
    case k5 => exact HL1.out.1
    case k6 => rw [HLC.out, show Nat.min m m = m from Nat.min_self m]
    case k7 => rw [Hl2.out, HLC.out]; omega
    intro w3 v3 HL3)
  go_wp2
  go_ret
  have ef : splice L1 ((i + 1) * 2) (enc C) = enc (A ++ q :: C) ++ Z.drop (2 + (enc C).length) := by
    have := grow_cells (enc A) (enc C) Z (.string q.1) (.string q.2) (by rw [HLC.out, HZl.out]; omega)
    rw [HE.out, enc_append]
    show _ = enc A ++ (Value.string q.1 :: Value.string q.2 :: enc C) ++ _
    rw [← this, HLA.out, show (i + 1) * 2 = i * 2 + 2 by omega]
  have hLay := HL3.out.drew
  rw [ef] at hLay
  have eN : (A ++ q :: C).length = i + m + 1 := by simp [Hn.out, Hm.out]; omega
  have hR : Row B 64 w3 (.slice (some ⟨w.heap.size, 0, none⟩) (A ++ q :: C).length G) (A ++ q :: C) := Row.of hB hLay.1 (by rw [eN]; omega) hG2 (by
    rw [← ef, length_splice _ _ _ (by rw [Hl2.out, HLC.out]; omega), Hl2.out])
  rw [eN] at hR
  have hB3 : Below w.heap.size w w3 := HB2.out.grown hLay.2 HB2.out.size (fun k hk => by cases hk; exact Nat.le_refl _)
  exact ⟨_, rfl, hR, ⟨hB3.os, hB3.tape, hB3.output, hB3.size, fun k hk _ => hB3.block k hk, fun k hk => by cases hk; exact .inr (Nat.le_refl _)⟩⟩
/-- All roads. -/
theorem insert_any (B vb : Nat) (v : Value) (A C : List Pr) (q : Pr) (w : World) (h : Row B 64 w v (A ++ C)) (hB : B ≤ w.heap.size) (hl : (A ++ C).length ≤ 1000000)
    (hv : w.heap[vb]? = some (.cells #[.string q.1, .string q.2] 64 (0, 0))) (hne : v.ownBlock ≠ some vb) :
    Calls Try.prog 38 #[v, .int .i64 (A.length : Int), .slice (some ⟨vb, 0, none⟩) 1 1] w (Ins B v (A ++ q :: C) w) := by
  rcases Nat.eq_zero_or_pos C.length with h0 | hC
  · have e0 : C = [] := List.eq_nil_of_length_eq_zero h0
    subst e0
    rw [List.append_nil] at h hl
    exact insert_end B vb v A q w h hB hl hv
  · obtain ⟨g, cap, D, rfl, hBg, hg, h1, h2, h3⟩ := h.open (by simp; omega)
    have hgv : vb ≠ g := fun e => hne (by rw [e]; rfl)
    by_cases hr : cap = (A ++ C).length
    · subst hr
      have hD : D = [] := by
        rw [List.length_append, enc_len] at h3
        exact List.eq_nil_of_length_eq_zero (by omega)
      subst hD
      rw [List.append_nil] at hg
      exact insert_grow B vb g A C q w hB hl hC hg hv
    · obtain ⟨z1, z2, D', rfl⟩ : ∃ z1 z2 D', D = z1 :: z2 :: D' := by
        rw [List.length_append, enc_len] at h3
        match D, h3 with
        | [], h3 => simp only [List.length_nil] at h3; omega
        | [_], h3 => simp only [List.length_cons, List.length_nil] at h3; omega
        | a :: b :: r, _ => exact ⟨a, b, r, rfl⟩
      exact insert_room B vb g cap A C q z1 z2 D' w hBg hl hC hg h2 h3 hv hgv
end Go.Proofs.Ytigopifioijjlaa
