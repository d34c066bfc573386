/-
  The walk of the document's own Allows. By an AI agent.
-/
import Derived.Test.YtigopifioijjlaaSpecAllows
set_option linter.unusedSimpArgs false
namespace Go.Proofs.Ytigopifioijjlaa
open Go.RowKit
open Dc (Pr Rpl)
/-- What the walk has of the answer. -/
def mayY (k : Int) (d r : Rpl) : Bool := (Dc.sameB r { err := 10 } && (d.err == 0)) && k != 11
theorem rmay_false {l : List Pr} {k : Int} {key val old : ByteArray} {r : Rpl} (h : Dc.sameB r (Dc.doR l k key val old) = false) : Dc.mayB l k key val old r = mayY k (Dc.doR l k key val old) r ∧ Dc.mayM l k key val old r = l := by
  unfold Dc.mayB Dc.mayM mayY; rw [h]; simp
set_option maxRecDepth 100000 in
set_option maxHeartbeats 4000000 in
theorem rallows_any (v : Value) (l : List Pr) (k : Int) (key val old : ByteArray) (r : Rpl) (u : Value) (w : World) (h : Lst w v l) (hl : l.length ≤ 1000) (hu : Lst w u r.prs) (hr : r.prs.length ≤ 1000000) :
    Calls Try.prog 17 #[v, .agg #[.int .i64 k, .string key, .string val, .string old], .agg #[.int .i64 r.err, .bool r.had, .bool r.did, .string r.val, .int .i64 r.n, u]] w (May (Dc.mayM l k key val old r) (Dc.mayB l k key val old r) w) := by
  have HB0 := Lib.hid (twoR_below w k key val old r u)
  have HO := Lib.hid (twoR_op w k key val old r u)
  have HRp := Lib.hid (twoR_rp w k key val old r u)
  have HZ0 := Lib.hid (twoR_size w k key val old r u)
  have HV := Lib.hid h
  have HU := Lib.hid hu
  have HD := Lib.hid (rdo_any v l k key val old (twoR w k key val old r u) (h.below HB0.out) hl)
  have HT := Lib.hid (@may_true l k key val old r)
  have HF := Lib.hid (@rmay_false l k key val old r)
  have HS : Hid (∀ (b : Rpl) (u2 : Value) (w1 : World), b.prs.length ≤ 1000000 → Lst w1 u r.prs → Lst w1 u2 b.prs → Calls Try.prog _ _ w1 _) := Lib.hid (fun b u2 w1 hb h1 h2 => rsm_any b r u2 u w1 h2 h1 hb)
  have HS' : Hid (∀ (b : Rpl) (u2 : Value) (w1 : World), Lst w1 u r.prs → Lst w1 u2 b.prs → Calls Try.prog _ _ w1 _) := Lib.hid (fun b u2 w1 h1 h2 => rsm_any r b u u2 w1 h1 h2 hr)
  have hdl : (Dc.doR l k key val old).prs.length ≤ 1000000 := Nat.le_trans (Dc.len_doR k key val old) (by omega)
  obtain ⟨va, vc, rfl, -⟩ := h
  obtain ⟨ua, uc, rfl, -⟩ := hu
  generalize Dc.mayM l k key val old r = mm at *
  generalize Dc.mayB l k key val old r = mb at *
  generalize Dc.doM l k key val old = dm at *
  generalize Dc.doR l k key val old = d at *
  have HB1 := HB0
  unfold twoR at HB0 HO HRp HZ0 HD
  go_enter Try.func17, Try.ntmps17
  go_wp2_with fail
  with_reducible refine HD.out.mono ?_
  rintro e w1 ⟨v1, u1, rfl, hv1, hu1, hb1⟩
  have HU1 := Lib.hid hu1
  obtain ⟨ya, yc, rfl, -⟩ := hu1
  have HO1 := Lib.hid (HO.out.keep (hb1.block w.heap.size (by simp; omega)))
  have HR1 := Lib.hid (HRp.out.keep (hb1.block (w.heap.size + 1) (by simp)))
  have HB2 := Lib.hid (HB0.out.trans (hb1.mono (by have := HZ0.out; omega)))
  have HV1 := Lib.hid hv1; clear hv1
  have hz1 := hb1.size
  simp only [World.size_alloc] at hz1
  clear hb1
  have hlt0 : w.heap.size < w1.heap.size := by omega
  have hlt1 : w.heap.size + 1 < w1.heap.size := by omega
  have hal : ∀ (o : Obj) (j : Nat), (w1.alloc o).cell? ⟨w.heap.size + 1, j, none⟩ = w1.cell? ⟨w.heap.size + 1, j, none⟩ := fun o j => World.cell?_alloc_lt w1 o ⟨w.heap.size + 1, j, none⟩ hlt1
  obtain ⟨b0, b1, b2, b3, b4, b5⟩ := HR1.out.cells
  go_wp2_with fail
  obtain ⟨W, hW⟩ : ∃ W, w1.alloc (.cells #[.int .i64 d.err, .bool d.had, .bool d.did, .string d.val, .int .i64 d.n, .slice ya d.prs.length yc] 30) = W := ⟨_, rfl⟩
  rw [hW]
  have HRn : Hid (RpAt W w1.heap.size d (.slice ya d.prs.length yc)) := Lib.hid (hW ▸ rp_new w1 d _)
  have HRr : Hid (RpAt W (w.heap.size + 1) r (.slice ua r.prs.length uc)) := Lib.hid (HR1.out.keep (hW ▸ Below.heap_alloc w1 _ _ HR1.out.lt))
  have HOo : Hid (OpAt W w.heap.size k key val old) := Lib.hid (HO1.out.keep (hW ▸ Below.heap_alloc w1 _ _ HO1.out.lt))
  have hbw : Below w1.heap.size w1 W := hW ▸ (Below.refl _ w1).alloc (Nat.le_refl _) _
  have HVn := Lib.hid (HV1.out.below hbw)
  have HUn := Lib.hid (HU1.out.below hbw)
  have HB3 : Hid (Below w.heap.size w W) := Lib.hid (HB2.out.trans (hbw.mono HB2.out.size))
  have hn1 : w1.heap.size < W.heap.size := HRn.out.lt
  clear hbw hW hal b0 b1 b2 b3 b4 b5 HO1 HR1 HV1 HU1 HD
  have hs1 := HS.out d _ W hdl (HU.out.below HB3.out) HUn.out
  rw [Dc.sameB_comm] at hs1
  have HS1 := Lib.hid hs1; clear hs1 hdl
  generalize hx : Dc.sameB r d = x at HS1 HT HF
  have Hx := Lib.hid hx; clear hx
  with_reducible refine HS1.out.mono ?_
  rintro e w2 ⟨rfl, hb2⟩
  have HO2 := Lib.hid (HOo.out.keep (hb2.block w.heap.size HOo.out.lt))
  have HR2 := Lib.hid (HRr.out.keep (hb2.block (w.heap.size + 1) HRr.out.lt))
  have HN2 := Lib.hid (HRn.out.keep (hb2.block w1.heap.size HRn.out.lt))
  have HV2 := Lib.hid (HVn.out.below hb2)
  have HB4 := Lib.hid (HB3.out.trans (hb2.mono HB3.out.size))
  clear hb2 HOo HRr HRn HVn HUn HS1
  cases x
  · obtain ⟨e1, e2⟩ := HF.out rfl
    subst e1 e2
    clear HT HF
    have HK : Hid (∀ w' : World, (∀ q, q < w2.heap.size → w'.heap[q]? = w2.heap[q]?) → (w'.cell? ⟨w.heap.size, 0, none⟩ = some (.int .i64 k) ∧ w'.cell? ⟨w1.heap.size, 0, none⟩ = some (.int .i64 d.err)) ∧ w'.cell? ⟨w.heap.size + 1, 0, none⟩ = some (.int .i64 r.err) ∧ w'.cell? ⟨w.heap.size + 1, 1, none⟩ = some (.bool r.had) ∧ w'.cell? ⟨w.heap.size + 1, 2, none⟩ = some (.bool r.did) ∧ w'.cell? ⟨w.heap.size + 1, 3, none⟩ = some (.string r.val) ∧ w'.cell? ⟨w.heap.size + 1, 4, none⟩ = some (.int .i64 r.n) ∧ w'.cell? ⟨w.heap.size + 1, 5, none⟩ = some (.slice ua r.prs.length uc)) := Lib.hid (fun w' hq => ⟨⟨(HO2.out.keep (hq _ HO2.out.lt)).cells.1, (HN2.out.keep (hq _ HN2.out.lt)).cells.1⟩, (HR2.out.keep (hq _ HR2.out.lt)).cells⟩)
    have HZ : Hid (∀ w3, Below w2.drew.heap.size w2.drew w3 → ∀ q, q < w2.heap.size → w3.heap[q]? = w2.heap[q]?) := Lib.hid (fun w3 hb3 q hq => hb3.block q hq)
    have K0 := Lib.hid (HK.out w2.drew (fun q _ => rfl))
    obtain ⟨⟨p1, p2⟩, n0, n1, n2, n3, n4, n5⟩ := HK.out w2.drew (fun q _ => rfl)
    have HS4 := Lib.hid (HS'.out { err := 10 } (.slice none 0 0) w2.drew (HU.out.below HB4.out.drew) (Lst.nil _))
    have HX : Hid (mayY k d r = ((Dc.sameB r { err := 10 } && (d.err == 0)) && k != 11)) := Lib.hid rfl
    generalize mayY k d r = y at *
    generalize Dc.sameB r { err := 10 } = z at *
    cases z
    · have HX2 : Hid (y = false) := Lib.hid (by rw [HX.out]; simp)
      go_wp2_with fail
      first | (go_region_with (first | (go_at_call 11; (with_reducible refine HS4.out.mono ?_); rintro e w3 ⟨rfl, hb3⟩; obtain ⟨⟨q1, q2⟩, -⟩ := HK.out w3 (HZ.out w3 hb3); have B3 := Lib.hid hb3; clear hb3) | fail)) | fail
      go_wp2
      go_ret2
      exact ⟨_, by rw [HX2.out]; rfl, HV.out.below (HB4.out.drew.trans (B3.out.mono HB4.out.size)), HB4.out.drew.trans (B3.out.mono HB4.out.size)⟩
    · rcases Bool.eq_false_or_eq_true (d.err == 0) with he | he
      · rcases Bool.eq_false_or_eq_true (k != 11) with hk | hk
        all_goals
          have HX2 := Lib.hid (HX.out.trans (by rw [he, hk]))
          go_wp2_with fail
          first | (go_region_with (first | (go_at_call 11; (with_reducible refine HS4.out.mono ?_); rintro e w3 ⟨rfl, hb3⟩; obtain ⟨⟨q1, q2⟩, -⟩ := HK.out w3 (HZ.out w3 hb3); have B3 := Lib.hid hb3; clear hb3) | fail)) | fail
          go_wp2
          go_ret2
          exact ⟨_, by rw [HX2.out]; rfl, HV.out.below (HB4.out.drew.trans (B3.out.mono HB4.out.size)), HB4.out.drew.trans (B3.out.mono HB4.out.size)⟩
      · have HX2 : Hid (y = false) := Lib.hid (by rw [HX.out, he]; simp)
        go_wp2_with fail
        first | (go_region_with (first | (go_at_call 11; (with_reducible refine HS4.out.mono ?_); rintro e w3 ⟨rfl, hb3⟩; obtain ⟨⟨q1, q2⟩, -⟩ := HK.out w3 (HZ.out w3 hb3); have B3 := Lib.hid hb3; clear hb3) | fail)) | fail
        go_wp2
        go_ret2
        exact ⟨_, by rw [HX2.out]; rfl, HV.out.below (HB4.out.drew.trans (B3.out.mono HB4.out.size)), HB4.out.drew.trans (B3.out.mono HB4.out.size)⟩
  · obtain ⟨e1, e2⟩ := HT.out rfl
    subst e1 e2
    go_wp2
    go_ret2
    exact ⟨_, rfl, HV2.out, HB4.out⟩
end Go.Proofs.Ytigopifioijjlaa
