/-
  The walk of slices.Insert of one pair. By an AI agent.
-/
import Derived.Test.YtigopifioijjlaaDictSlices
set_option linter.unusedSimpArgs false
namespace Go.Proofs.Ytigopifioijjlaa
open Go.RowKit
open Dc (Pr)
/-- What Insert answers: the row with the pair at its place. -/
def Ins (B : Nat) (v : Value) (l : List Pr) (w : World) (e : Ending) (w' : World) : Prop := ∃ v', e = .returned v' ∧ Row B 64 w' v' l ∧ Sr v v' w w'
set_option maxRecDepth 100000 in
set_option maxHeartbeats 4000000 in
theorem insert_end (B vb : Nat) (v : Value) (A : List Pr) (q : Pr) (w : World) (h : Row B 64 w v A) (hB : B ≤ w.heap.size) (hl : A.length ≤ 1000000)
    (hv : w.heap[vb]? = some (.cells #[.string q.1, .string q.2] 64 (0, 0))) :
    Calls Try.prog 38 #[v, .int .i64 (A.length : Int), .slice (some ⟨vb, 0, none⟩) 1 1] w (Ins B v (A ++ [q]) w) := by
  obtain ⟨i, hi, hz0, hz1, hz2⟩ := info_parts info_pair
  have Hi := Lib.hid hi; clear hi
  have Hz0 := Lib.hid hz0; clear hz0
  have Hz1 := Lib.hid hz1; clear hz1
  have Hz2 := Lib.hid hz2; clear hz2
  have hne : ∀ j u, [Value.string q.1, Value.string q.2][j]? = some u → w.cell? ((⟨vb, 0, none⟩ : Addr).add j) = some u := by
    have : w.heap[vb]? = some (.cells ([] ++ [Value.string q.1, Value.string q.2] ++ []).toArray 64 (0, 0)) := by simpa using hv
    exact cells_at this rfl
  have HNE := Lib.hid hne; clear hne hv
  have HR := Lib.hid h
  have hcl : ∀ v' w', w'.ownsRow B 64 2 v' (A.length + 1) (enc A ++ [.string q.1, .string q.2]) → w.grownBy w' v.ownBlock → (v'.ownBlock = v.ownBlock ∨ v'.ownBlock = some w.heap.size) → Ins B v (A ++ [q]) w (.returned v') w' := by
    intro v' w' h1 h2 h3
    refine ⟨v', rfl, by simpa [Row, enc_append, enc] using h1, Sr.of_grown h2 fun k hk => ?_⟩
    rcases h3 with h3 | h3
    · exact .inl (h3 ▸ hk)
    · rw [h3] at hk; cases hk; exact .inr (Nat.le_refl _)
  have HCL := Lib.hid hcl; clear hcl
  rcases h.2 with ⟨rfl, h0⟩ | ⟨g, cap, cur, rfl, -, hg, h1, h2, -⟩
  · have e0 : A = [] := List.eq_nil_of_length_eq_zero h0
    subst e0
    clear h h0
    go_enter Try.func38, Try.ntmps38
    go_wp2_with (at_builtin; refine wpList_append_own_at _ rfl _ _ 65 rfl B 64 i (.agg #[.string ⟨#[]⟩, .string ⟨#[]⟩]) 2 32 Try.underlying65 Hi.out Hz0.out Hz1.out Hz2.out rfl (by decide) _ 0 [] rfl HR.out ⟨vb, 0, none⟩ 1 1 [.string q.1, .string q.2] rfl rfl HNE.out (by simp [Value.oneCell']) (by decide) (by decide) hB ?_; intro v' w1 hown hgrow _ hat)
    all_goals go_ret
    all_goals exact HCL.out _ _ hown hgrow hat
  · clear h hg
    generalize hn : A.length = n at *
    have Hn := Lib.hid hn; clear hn
    have hcap : cap ≤ 9223372036854775807 := by unfold maxLen at h2; omega
    by_cases hcn : cap = n
    · subst hcn
      go_enter Try.func38, Try.ntmps38
      go_wp2_with (at_builtin; refine wpList_append_own_at _ rfl _ _ 65 rfl B 64 i (.agg #[.string ⟨#[]⟩, .string ⟨#[]⟩]) 2 32 Try.underlying65 Hi.out Hz0.out Hz1.out Hz2.out rfl (by decide) _ _ (enc A) rfl (by have := HR.out; simp only [Row, Hn.out] at this; exact this) ⟨vb, 0, none⟩ 1 1 [.string q.1, .string q.2] rfl rfl HNE.out (by simp [Value.oneCell']) (by unfold maxLen; omega) (by omega) hB ?_; intro v' w1 hown hgrow _ hat)
      all_goals go_ret
      all_goals exact HCL.out _ _ hown hgrow hat
    · have hcn' : n < cap := by omega
      go_enter Try.func38, Try.ntmps38
      go_wp2_with (at_builtin; refine wpList_append_own_at _ rfl _ _ 65 rfl B 64 i (.agg #[.string ⟨#[]⟩, .string ⟨#[]⟩]) 2 32 Try.underlying65 Hi.out Hz0.out Hz1.out Hz2.out rfl (by decide) _ _ (enc A) rfl (by have := HR.out; simp only [Row, Hn.out] at this; exact this) ⟨vb, 0, none⟩ 1 1 [.string q.1, .string q.2] rfl rfl HNE.out (by simp [Value.oneCell']) (by unfold maxLen; omega) (by omega) hB ?_; intro v' w1 hown hgrow _ hat)
      all_goals go_ret
      all_goals exact HCL.out _ _ hown hgrow hat
theorem size52 (w : World) : (sizeOf 64).run Try.prog w = .ok 2 w := by
  obtain ⟨i, hi, hz0, hz1, hz2⟩ := info_parts info_pair
  simp [sizeOf, typeInfo, hi, hz1]
/-- The pair's own block is not the row's. -/
theorem overlaps_no (w : World) (vb g o : Nat) (cs : Array Value) (cur : List Value) (hv : w.heap[vb]? = some (.cells cs 64 (0, 0))) (hg : w.heap[g]? = some (.cells cur.toArray 64 (0, 0))) (hne : vb ≠ g) (hc : cur.length ≠ 0) :
    ∀ lb cb, (callFunc 44 #[.slice (some ⟨vb, 0, none⟩) 1 1, .slice (some ⟨g, o, none⟩) lb cb]).run Try.prog w = .ok (.value (.bool false)) w := fun lb cb => by
  rw [run_callFunc_extern Try.func44 (by kernel_rfl) (by kernel_rfl) (by kernel_rfl) (e := Extern.SlicesOverlaps.overlaps #[65, 65] #[4]) (by kernel_rfl),
    Lib.run_overlaps_apart w 65 4 64 Try.underlying65 2 size52 ⟨vb, 0, none⟩ ⟨g, o, none⟩ 1 1 lb cb hne 64 64 cs.size cur.length (by simp [World.shape?, hv]) (by simp [World.shape?, hg]) hc (by simp [World.frozen?, hv]) (by simp [World.frozen?, hv])]
  rfl
/-- The cells of the row behind the two copies. -/
theorem ins_cells (a c D : List Value) (k x z1 z2 : Value) : splice (splice (a ++ c ++ (z1 :: z2 :: D)) (a.length + 2) c) a.length [k, x] = a ++ (k :: x :: c) ++ D := by
  have h2 : c ++ [z1, z2] = (c ++ [z1, z2]).take 2 ++ (c ++ [z1, z2]).drop 2 := (List.take_append_drop _ _).symm
  have hl : ((c ++ [z1, z2]).drop 2).length = c.length := by simp
  have ht : ((c ++ [z1, z2]).take 2).length = 2 := by simp
  have e0 : a ++ c ++ (z1 :: z2 :: D) = (a ++ (c ++ [z1, z2]).take 2) ++ (c ++ [z1, z2]).drop 2 ++ D := by
    rw [List.append_assoc a ((c ++ [z1, z2]).take 2), ← h2]; simp
  rw [e0, splice_at _ _ D c (a.length + 2) (by simp) hl.symm]
  have := splice_at a ((c ++ [z1, z2]).take 2) (c ++ D) [k, x] a.length rfl (by simp [ht])
  rw [show a ++ (c ++ [z1, z2]).take 2 ++ c ++ D = a ++ (c ++ [z1, z2]).take 2 ++ (c ++ D) by simp, this]
  simp
set_option maxRecDepth 100000 in
set_option maxHeartbeats 4000000 in
theorem insert_room (B vb g cap : Nat) (A C : List Pr) (q : Pr) (z1 z2 : Value) (D : List Value) (w : World) (hB : B ≤ g) (hl : (A ++ C).length ≤ 1000000) (hC : 0 < C.length)
    (hg : w.heap[g]? = some (.cells (enc (A ++ C) ++ (z1 :: z2 :: D)).toArray 64 (0, 0))) (h2 : cap ≤ maxLen) (h3 : (enc (A ++ C) ++ (z1 :: z2 :: D)).length = cap * 2)
    (hv : w.heap[vb]? = some (.cells #[.string q.1, .string q.2] 64 (0, 0))) (hne : vb ≠ g) :
    Calls Try.prog 38 #[.slice (some ⟨g, 0, none⟩) (A ++ C).length cap, .int .i64 (A.length : Int), .slice (some ⟨vb, 0, none⟩) 1 1] w (Ins B (.slice (some ⟨g, 0, none⟩) (A ++ C).length cap) (A ++ q :: C) w) := by
  have hmix : Try.prog.follows .mixedOrders = true := by kernel_rfl
  have hov := overlaps_no w vb g ((A.length + 1) * 2) _ _ hv hg hne (by simp)
  rw [enc_append] at hg h3
  have eL : (A ++ C).length = A.length + C.length := by simp
  rw [eL] at hl ⊢
  have hroom : A.length + C.length + 1 ≤ cap := by simp [enc_len] at h3; omega
  have HG := Lib.hid hg; clear hg
  have H3 := Lib.hid h3; clear h3
  clear eL
  have hsrc : ∀ j u, (enc C)[j]? = some u → w.cell? ((⟨g, A.length * 2, none⟩ : Addr).add j) = some u := cells_at HG.out (by simp [enc_len])
  have HS := Lib.hid hsrc; clear hsrc
  have HLC := Lib.hid (enc_len C)
  have HLA := Lib.hid (enc_len A)
  generalize hn : A.length = i at *
  generalize hm : C.length = m at *
  have Hn := Lib.hid hn; clear hn
  have Hm := Lib.hid hm; clear hm
  have hcap : cap ≤ 9223372036854775807 := by unfold maxLen at h2; omega
  have f0 : ¬ ((i : Int) = (i : Int) + (m : Int)) := by omega
  have f1 : IntKind.i64.wrap ((i : Int) + 1) = (i : Int) + 1 := by rw [IntKind.wrap_i64]; omega
  have f2 : IntKind.i64.wrap ((i : Int) + (m : Int) + 1) = (i : Int) + (m : Int) + 1 := by rw [IntKind.wrap_i64]; omega
  have f3 : ((i : Int) + 1).toNat = i + 1 := by omega
  have f4 : (0 : Int) ≤ (i : Int) + 1 := by omega
  have f5 : (i : Int) ≤ (i : Int) + (m : Int) := by omega
  have f6 : ¬ (cap = i) := by omega
  have f7 : ¬ (cap = i + 1) := by omega
  have f8 : (i : Int) + 1 ≤ (i : Int) + (m : Int) + 1 := by omega
  have f9 : (i : Int) ≤ (i : Int) + (m : Int) + 1 := by omega
  have f10 : ((i : Int) + (m : Int) + 1).toNat = i + m + 1 := by omega
  have f11 : (i : Int) + (m : Int) + 1 ≤ (cap : Int) := by omega
  have f12 : (0 : Int) ≤ (i : Int) + (m : Int) + 1 := by omega
  go_enter Try.func38, Try.ntmps38
  go_wp2_with (simp only [hov])
  go_region_law (
    refine step_copy2 (g := g) (off := (i + 1) * 2) (dLen := m) (dCap := cap - (i + 1)) (ad := ⟨g, i * 2, none⟩) (sLen := m + 1) (sCap := cap - i) (cur := enc A ++ enc C ++ (z1 :: z2 :: D)) (cs := enc C) ?k1 (.tmp 73) (.tmp 76) ?k2 ?k3 ?k4 ?k5 ?k6 HS.out ?k7 (enc_one C) ?_
    case k1 => rfl
    case k2 => rfl
    case k3 => first | (simp [go_sem]; done) | (simp [go_sem]; omega)
    case k4 => first | (simp [go_sem]; done) | (simp [go_sem]; omega)
    case k5 => exact HG.out
    case k6 => rw [HLC.out]; congr 1; simp only [Nat.min_def]; split <;> omega
    case k7 => rw [H3.out, HLC.out]; omega
    intro w1 v1 HL1)
  have HL : Hid (Lay w w1 g (splice (enc A ++ enc C ++ (z1 :: z2 :: D)) ((i + 1) * 2) (enc C))) := Lib.hid HL1.out.drew
  clear HL1
  have hL1 : (splice (enc A ++ enc C ++ (z1 :: z2 :: D)) ((i + 1) * 2) (enc C)).length = cap * 2 := by
    rw [length_splice _ _ _ (by rw [H3.out, HLC.out]; omega)]; exact H3.out
  obtain ⟨L1, HE⟩ : ∃ L1, Hid (L1 = splice (enc A ++ enc C ++ (z1 :: z2 :: D)) ((i + 1) * 2) (enc C)) := ⟨_, Lib.hid rfl⟩
  rw [← HE.out] at HL hL1
  have HL1 := Lib.hid hL1; clear hL1
  have hnv : ∀ j u, [Value.string q.1, Value.string q.2][j]? = some u → w1.cell? ((⟨vb, 0, none⟩ : Addr).add j) = some u := by
    have hvw : w1.heap[vb]? = some (.cells ([] ++ [Value.string q.1, Value.string q.2] ++ []).toArray 64 (0, 0)) := by
      rw [HL.out.2.block vb (Array.getElem?_eq_some_iff.1 hv).1 (fun e => hne (by cases e; rfl))]; simpa using hv
    exact cells_at hvw rfl
  have HNV := Lib.hid hnv; clear hnv hv
  have K6 : [Value.string q.1, Value.string q.2].length = Nat.min 1 (m + 1) * 2 := by
    rw [show Nat.min 1 (m + 1) = 1 from Nat.min_eq_left (by omega)]; rfl
  have K7 : i * 2 + [Value.string q.1, Value.string q.2].length ≤ L1.length := by rw [HL1.out]; simp; omega
  have HK6 := Lib.hid K6; clear K6
  go_wp2_with (refine wpList_copy2 (g := g) (off := i * 2) (dLen := m + 1) (dCap := cap - i) (ad := ⟨vb, 0, none⟩) (sLen := 1) (sCap := 1) (cur := L1) (cs := [Value.string q.1, Value.string q.2]) ?k1 (.tmp 80) (.tmp 81) ?k2 ?k3 ?k4 HL.out.1 HK6.out HNV.out K7 (by simp [Value.oneCell']) ?_; (case k1 => rfl); (case k2 => rfl); (case k3 => (first | (simp [go_sem]; done) | (simp [go_sem]; omega))); (case k4 => simp [go_sem]); intro w2 v2 HL2)
  go_ret
  have ef : splice L1 (i * 2) [Value.string q.1, Value.string q.2] = enc (A ++ q :: C) ++ D := by
    have := ins_cells (enc A) (enc C) D (.string q.1) (.string q.2) z1 z2
    rw [HE.out, enc_append]
    show _ = enc A ++ (Value.string q.1 :: Value.string q.2 :: enc C) ++ D
    rw [← this, HLA.out, show (i + 1) * 2 = i * 2 + 2 by omega]
  have hLay := HL2.out
  rw [ef] at hLay
  have eN : (A ++ q :: C).length = i + m + 1 := by simp [Hn.out, Hm.out]; omega
  have hR : Row B 64 w2 (.slice (some ⟨g, 0, none⟩) (A ++ q :: C).length cap) (A ++ q :: C) := Row.of hB hLay.1 (by rw [eN]; omega) h2 (by
    rw [← ef, length_splice _ _ _ (by rw [HL1.out]; simp; omega), HL1.out])
  rw [eN] at hR
  exact ⟨_, rfl, hR, Sr.of_grown (grown_trans HL.out.2 hLay.2) (fun k hk => .inl hk)⟩
end Go.Proofs.Ytigopifioijjlaa
