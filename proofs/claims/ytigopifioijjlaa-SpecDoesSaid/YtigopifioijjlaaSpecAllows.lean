/-
  The walk of Allows. By an AI agent.
-/
import Derived.Test.YtigopifioijjlaaSpecDo
import Derived.Test.YtigopifioijjlaaSpecSame
import Derived.Test.YtigopifioijjlaaSpecMap
import Derived.Test.YtigopifioijjlaaSpecRefKey
import Derived.Deep.RegionHeld3
set_option linter.unusedSimpArgs false
namespace Go.Proofs.Ytigopifioijjlaa
open Go.RowKit
open Dc (Pr Rpl)
theorem twoR_op (w : World) (k : Int) (key val old : ByteArray) (r : Rpl) (u : Value) : OpAt (twoR w k key val old r u) w.heap.size k key val old :=
  (Below.heap_alloc _ _ _ (by simp)).trans (heap_alloc_new w _)
theorem twoR_size (w : World) (k : Int) (key val old : ByteArray) (r : Rpl) (u : Value) : (twoR w k key val old r u).heap.size = w.heap.size + 2 := by simp [twoR]
/-- What the walk has of the answer. -/
def mayX (k : Int) (d r : Rpl) : Bool := (shortK k && (d.err == 0)) && Dc.sameB r { err := shortN k }
theorem may_true {l : List Pr} {k : Int} {key val old : ByteArray} {r : Rpl} (h : Dc.sameB r (Dc.doR l k key val old) = true) : Dc.mayB l k key val old r = true ∧ Dc.mayM l k key val old r = Dc.doM l k key val old := by
  unfold Dc.mayB Dc.mayM; rw [h]; simp
theorem may_false {l : List Pr} {k : Int} {key val old : ByteArray} {r : Rpl} (h : Dc.sameB r (Dc.doR l k key val old) = false) : Dc.mayB l k key val old r = mayX k (Dc.doR l k key val old) r ∧ Dc.mayM l k key val old r = l := by
  unfold Dc.mayB Dc.mayM; rw [h]
  refine ⟨?_, by simp⟩
  unfold mayX shortK shortN
  simp only [Bool.false_or]
  by_cases hk : 1 ≤ k ∧ k ≤ 10
  · have : (k != 11) = true := by simp; omega
    rw [if_pos hk, decide_eq_true hk, this, Bool.and_true, Bool.true_and, Bool.and_comm]
  · rw [decide_eq_false hk]
    simp only [Bool.false_and]
    by_cases h11 : k = 11
    · subst h11; simp
    · have : ((Dc.doR l k key val old).err == 0) = false := by
        unfold Dc.doR
        split
        · rfl
        · rw [if_neg (by omega), if_neg (by omega), if_neg (by omega), if_neg (by omega)]; (first | rfl | (rw [if_neg (by omega)]; rfl))
      rw [this]; simp
set_option maxRecDepth 100000 in
set_option maxHeartbeats 4000000 in
theorem allows_any (v : Value) (l : List Pr) (k : Int) (key val old : ByteArray) (r : Rpl) (u : Value) (w : World) (h : Lst w v l) (hl : l.length ≤ 1000) (hs : Dc.Srt l) (hu : Lst w u r.prs) (hr : r.prs.length ≤ 1000000) (hk : (Lit.int .i64 k).wf = true) :
    Calls Try.prog 16 #[v, .agg #[.int .i64 k, .string key, .string val, .string old], .agg #[.int .i64 r.err, .bool r.had, .bool r.did, .string r.val, .int .i64 r.n, u]] w (May (Dc.mayM l k key val old r) (Dc.mayB l k key val old r) w) := by
  have HB0 := Lib.hid (twoR_below w k key val old r u)
  have HO := Lib.hid (twoR_op w k key val old r u)
  have HRp := Lib.hid (twoR_rp w k key val old r u)
  have HZ0 := Lib.hid (twoR_size w k key val old r u)
  have HV := Lib.hid h
  have HU := Lib.hid hu
  have HD := Lib.hid (do_any v l k key val old (twoR w k key val old r u) (h.below HB0.out) hl hs)
  have HC : Hid (∀ w1, Lst w1 v l → Calls Try.prog _ #[v] w1 (Tells l w1)) := Lib.hid (fun w1 h1 => aclone_any v l w1 h1 (by omega))
  have HT := Lib.hid (@may_true l k key val old r)
  have HF := Lib.hid (@may_false l k key val old r)
  have HK := Lib.hid hk; clear hk
  have HS : Hid (∀ (b : Rpl) (u2 : Value) (w1 : World), Lst w1 u r.prs → Lst w1 u2 b.prs → Calls Try.prog _ _ w1 _) := Lib.hid (fun b u2 w1 h1 h2 => sm_any r b u u2 w1 h1 h2 hr)
  obtain ⟨va, vc, rfl, -⟩ := h
  obtain ⟨ua, uc, rfl, -⟩ := hu
  generalize Dc.mayM l k key val old r = mm at *
  generalize Dc.mayB l k key val old r = mb at *
  generalize Dc.doM l k key val old = dm at *
  generalize Dc.doR l k key val old = d at *
  have HB1 := HB0
  unfold twoR at HB0 HO HRp HZ0 HD
  go_enter Try.func16, Try.ntmps16
  go_wp2_with fail
  with_reducible refine HD.out.mono ?_
  rintro e w1 ⟨v1, u1, rfl, hv1, hu1, hb1⟩
  have HU1 := Lib.hid hu1
  obtain ⟨ya, yc, rfl, -⟩ := hu1
  have HO1 := Lib.hid (HO.out.keep (hb1.block w.heap.size (by simp; omega)))
  have HR1 := Lib.hid (HRp.out.keep (hb1.block (w.heap.size + 1) (by simp)))
  have HB2 := Lib.hid (HB0.out.trans (hb1.mono (by have := HZ0.out; omega)))
  have HV1 := Lib.hid hv1; clear hv1
  have hz1 := hb1.size
  simp only [World.size_alloc] at hz1
  clear hb1
  have hlt0 : w.heap.size < w1.heap.size := by omega
  have hlt1 : w.heap.size + 1 < w1.heap.size := by omega
  have hal : ∀ (o : Obj) (j : Nat), (w1.alloc o).cell? ⟨w.heap.size + 1, j, none⟩ = w1.cell? ⟨w.heap.size + 1, j, none⟩ := fun o j => World.cell?_alloc_lt w1 o ⟨w.heap.size + 1, j, none⟩ hlt1
  obtain ⟨b0, b1, b2, b3, b4, b5⟩ := HR1.out.cells
  go_wp2_with fail
  obtain ⟨W, hW⟩ : ∃ W, w1.alloc (.cells #[.int .i64 d.err, .bool d.had, .bool d.did, .string d.val, .int .i64 d.n, .slice ya d.prs.length yc] 30) = W := ⟨_, rfl⟩
  rw [hW]
  have HRn : Hid (RpAt W w1.heap.size d (.slice ya d.prs.length yc)) := Lib.hid (hW ▸ rp_new w1 d _)
  have HRr : Hid (RpAt W (w.heap.size + 1) r (.slice ua r.prs.length uc)) := Lib.hid (HR1.out.keep (hW ▸ Below.heap_alloc w1 _ _ HR1.out.lt))
  have HOo : Hid (OpAt W w.heap.size k key val old) := Lib.hid (HO1.out.keep (hW ▸ Below.heap_alloc w1 _ _ HO1.out.lt))
  have hbw : Below w1.heap.size w1 W := hW ▸ (Below.refl _ w1).alloc (Nat.le_refl _) _
  have HVn := Lib.hid (HV1.out.below hbw)
  have HUn := Lib.hid (HU1.out.below hbw)
  have HB3 : Hid (Below w.heap.size w W) := Lib.hid (HB2.out.trans (hbw.mono HB2.out.size))
  have hn1 : w1.heap.size < W.heap.size := HRn.out.lt
  clear hbw hW hal b0 b1 b2 b3 b4 b5 HO1 HR1 HV1 HU1 HD
  have HS1 := Lib.hid (HS.out d _ W (HU.out.below HB3.out) HUn.out)
  generalize hx : Dc.sameB r d = x at HS1 HT HF
  have Hx := Lib.hid hx; clear hx
  with_reducible refine HS1.out.mono ?_
  rintro e w2 ⟨rfl, hb2⟩
  have HO2 := Lib.hid (HOo.out.keep (hb2.block w.heap.size HOo.out.lt))
  have HR2 := Lib.hid (HRr.out.keep (hb2.block (w.heap.size + 1) HRr.out.lt))
  have HN2 := Lib.hid (HRn.out.keep (hb2.block w1.heap.size HRn.out.lt))
  have HV2 := Lib.hid (HVn.out.below hb2)
  have HB4 := Lib.hid (HB3.out.trans (hb2.mono HB3.out.size))
  clear hb2 HOo HRr HRn HVn HUn HS1
  cases x
  · obtain ⟨e1, e2⟩ := HF.out rfl
    subst e1 e2
    clear HT HF
    have HVd : Hid (Lst w2.drew (.slice va mm.length vc) mm) := Lib.hid (HV.out.below HB4.out.drew)
    have HQ := Lib.hid (shortages_any w2.drew)
    have HZ : Hid (∀ w3, Below w2.drew.heap.size w2.drew w3 → ∀ q, q < w2.heap.size → w3.heap[q]? = w2.heap[q]?) := Lib.hid (fun w3 hb3 q hq => hb3.block q hq)
    have p0 := HO2.out.cells.1
    have P0 : Hid (w2.drew.cell? ⟨w.heap.size, 0, none⟩ = some (.int .i64 k)) := Lib.hid p0
    have HX : Hid (mayX k d r = ((shortK k && (d.err == 0)) && Dc.sameB r { err := shortN k })) := Lib.hid rfl
    generalize mayX k d r = y at *
    have HKk := Lib.hid (fun w3 b (hq : ∀ k : Int, (Lit.int .i64 k).wf = true → (Instr.lookup 50 (.map (some b)) (.int .i64 k) true).run Try.prog w3 = .ok (.tuple #[.int .i64 (shortN k), .bool (shortK k)]) w3) => hq k HK.out)
    generalize shortN k = sn at *
    generalize shortK k = sk at *
    go_wp2_with fail
    go_region_held3 (fun w' => w'.cell? ⟨w.heap.size, 0, none⟩ = some (.int .i64 k))
      (first | with_reducible exact P3.out | with_reducible exact P0.out | fail)
      (first | (go_at_call 24; (with_reducible refine HQ.out.mono ?_); rintro e w3 ⟨b, rfl, hb3, hq3⟩; have P3 : Hid (w3.cell? ⟨w.heap.size, 0, none⟩ = some (.int .i64 k)) := Lib.hid ((HO2.out.keep (HZ.out w3 hb3 w.heap.size HO2.out.lt)).cells.1); have hlk := HKk.out w3 b hq3; have B3 := Lib.hid hb3; clear hb3 hq3) | fail)
    have HO3 := Lib.hid (HO2.out.keep (HZ.out w3 B3.out _ HO2.out.lt))
    have HR3 := Lib.hid (HR2.out.keep (HZ.out w3 B3.out _ HR2.out.lt))
    have HN3 := Lib.hid (HN2.out.keep (HZ.out w3 B3.out _ HN2.out.lt))
    have HB5 := Lib.hid (HB4.out.drew.trans (B3.out.mono HB4.out.size))
    clear P3 P0 p0 hlk HO2 HR2 HN2 HQ HKk
    have HC3 := Lib.hid (HC.out w3 (HV.out.below HB5.out))
    go_wp2_with fail
    with_reducible refine HC3.out.mono ?_
    rintro e w4 ⟨v4, rfl, hr4, hb4⟩
    have HR4 := Lib.hid (HR3.out.keep (hb4.block _ HR3.out.lt))
    have HN4 := Lib.hid (HN3.out.keep (hb4.block _ HN3.out.lt))
    have HB6 := Lib.hid (HB5.out.trans (hb4.mono HB5.out.size))
    have HW4 := Lib.hid (Lst.of_row hr4)
    clear hr4 hb4 HC3
    obtain ⟨b0, b1, b2, b3, b4, b5⟩ := HR4.out.cells
    obtain ⟨n0, n1, n2, n3, n4, n5⟩ := HN4.out.cells
    have HS4 := Lib.hid (HS.out { err := sn } (.slice none 0 0) w4 (HU.out.below HB6.out) (Lst.nil _))
    cases sk
    · go_wp2
      go_ret2
      exact ⟨_, by rw [HX.out]; rfl, HW4.out, HB6.out⟩
    · cases he : (d.err == 0)
      · have HE := Lib.hid he
        go_wp2
        go_ret2
        exact ⟨_, by rw [HX.out, HE.out]; rfl, HW4.out, HB6.out⟩
      · have HE := Lib.hid he
        generalize Dc.sameB r { err := sn } = z at *
        go_wp2_with fail
        with_reducible refine HS4.out.mono ?_
        rintro e w5 ⟨rfl, hb5⟩
        go_wp2
        go_ret2
        exact ⟨_, by rw [HX.out, HE.out]; simp, HW4.out.below hb5, HB6.out.trans (hb5.mono HB6.out.size)⟩
  · obtain ⟨e1, e2⟩ := HT.out rfl
    subst e1 e2
    go_wp2
    go_ret2
    exact ⟨_, rfl, HV2.out, HB4.out⟩
end Go.Proofs.Ytigopifioijjlaa
