/-
  The walk of SpecAllows, up to its loop. By an AI agent.
-/
import Derived.Test.YtigopifioijjlaaSpecReps
import Derived.Test.YtigopifioijjlaaSpecKeeps
set_option linter.unusedSimpArgs false
namespace Go.Proofs.Ytigopifioijjlaa
open Go.RowKit
open Dc (Pr Rpl)
set_option maxRecDepth 100000 in
set_option maxHeartbeats 16000000 in
theorem allows_law (v : Value) (l : List Pr) (k : Int) (key val old : ByteArray) (ra : Option Addr) (rs : List Rp) (rc : Nat) (w : World) (h : Lst w v l) (hk : (Lit.int .i64 k).wf = true) (hR : Reps w ra rs) (hnil : ra = none → rc = 0) (hG : Good w rs) :
    Calls Try.prog 4 #[v, .agg #[.int .i64 k, .string key, .string val, .string old], .slice ra rs.length rc] w (Gives (.bool true) w) := by
  have HA := Lib.hid awake_any
  have HB0 := Lib.hid (op_below w k key val old)
  have HO := Lib.hid (boxO_op w k key val old)
  have HV0 := Lib.hid (h.below HB0.out)
  have HRs := Lib.hid hR; clear hR
  have HGs := Lib.hid hG; clear hG
  have HNl := Lib.hid hnil; clear hnil
  have HK := Lib.hid hk; clear hk
  obtain ⟨va, vc, rfl, -⟩ := h
  unfold boxO at HO
  by_cases h40 : 40 < l.length
  · have h40Z : (40 : Int) < (l.length : Int) := by omega
    go_enter Try.func4, Try.ntmps4
    go_wp2_with fail
    with_reducible refine (HA.out _).mono ?_
    rintro e w1 ⟨rfl, hb⟩
    go_wp2
    go_ret
    exact gives_then HB0.out hb rfl
  have h40Z : ¬ ((40 : Int) < (l.length : Int)) := by omega
  by_cases h10 : 10 < rs.length
  · have h10Z : (10 : Int) < (rs.length : Int) := by omega
    go_enter Try.func4, Try.ntmps4
    go_wp2_with fail
    with_reducible refine (HA.out _).mono ?_
    rintro e w1 ⟨rfl, hb⟩
    go_wp2
    go_ret
    exact gives_then HB0.out hb rfl
  have h10Z : ¬ ((10 : Int) < (rs.length : Int)) := by omega
  have HSh := Lib.hid (short_any k key val old (w.alloc (.cells #[.int .i64 k, .string key, .string val, .string old] 27)))
  generalize shortB key val old = sb at *
  go_enter Try.func4, Try.ntmps4
  go_wp2_with fail
  with_reducible refine HSh.out.mono ?_
  rintro e w1 ⟨rfl, hb1⟩
  have HO1 := Lib.hid (HO.out.keep (hb1.block _ HO.out.lt))
  have HB1 := Lib.hid (HB0.out.trans (hb1.mono HB0.out.size))
  have HV1 := Lib.hid (HV0.out.below hb1)
  clear hb1 HSh HO HB0 HV0
  cases sb
  · skip
    go_wp2_with fail
    with_reducible refine (HA.out _).mono ?_
    rintro e w2 ⟨rfl, hb⟩
    go_wp2
    go_ret
    exact gives_then HB1.out hb rfl
  have HRt := Lib.hid (right_any _ l w1 HV1.out (by omega))
  have HRu : Hid (∀ w2, Lst w2 (.slice va l.length vc) l → Calls Try.prog _ _ w2 _) := Lib.hid (fun w2 h2 => rright_any (.slice va l.length vc) l w2 h2 (by omega))
  have HRi := Lib.hid (Dc.rightB_iff l)
  generalize Dc.rightB l = rb at *
  have hbb : (rb != rb) = false := by simp
  go_wp2_with fail
  with_reducible refine HRt.out.mono ?_
  rintro e w2 ⟨rfl, hb2⟩
  have HO2 := Lib.hid (HO1.out.keep (hb2.block _ HO1.out.lt))
  have HB2 := Lib.hid (HB1.out.trans (hb2.mono HB1.out.size))
  have HV2 := Lib.hid (HV1.out.below hb2)
  clear hb2 HRt HO1 HB1 HV1
  have HR2 := Lib.hid (HRu.out w2 HV2.out)
  go_wp2_with fail
  with_reducible refine HR2.out.mono ?_
  rintro e w3 ⟨rfl, hb3⟩
  have HO3 := Lib.hid (HO2.out.keep (hb3.block _ HO2.out.lt))
  have HB3 := Lib.hid (HB2.out.trans (hb3.mono HB2.out.size))
  have HV3 := Lib.hid (HV2.out.below hb3)
  clear hb3 HR2 HO2 HB2 HV2
  have HR3 := Lib.hid (HRu.out w3 HV3.out)
  go_wp2_with fail
  with_reducible refine HR3.out.mono ?_
  rintro e w4 ⟨rfl, hb4⟩
  have HO4 := Lib.hid (HO3.out.keep (hb4.block _ HO3.out.lt))
  have HB4 := Lib.hid (HB3.out.trans (hb4.mono HB3.out.size))
  have HV4 := Lib.hid (HV3.out.below hb4)
  clear hb4 HR3 HO3 HB3 HV3 HRu
  cases rb
  · skip
    go_wp2_with fail
    with_reducible refine (HA.out _).mono ?_
    rintro e w5 ⟨rfl, hb⟩
    go_wp2
    go_ret
    exact gives_then HB4.out hb rfl
  have HSr := Lib.hid (HRi.out.1 rfl); clear HRi hbb
  have HD := Lib.hid (rdo_any _ l k key val old w4 HV4.out (by omega))
  have hdl := Dc.len_doR (l := l) k key val old
  generalize Dc.doM l k key val old = N at *
  generalize Dc.doR l k key val old = R at *
  obtain ⟨c0, c1, c2, c3⟩ := HO4.out.cells
  go_wp2_with fail
  with_reducible refine HD.out.mono ?_
  rintro e w5 ⟨nv, ru, rfl, -, hr5, hb5⟩
  have HU5 := Lib.hid hr5
  obtain ⟨oa, oc, rfl, -⟩ := hr5
  obtain ⟨W5, hW5⟩ : ∃ W5, w5.alloc (.cells #[.int .i64 R.err, .bool R.had, .bool R.did, .string R.val, .int .i64 R.n, .slice oa R.prs.length oc] 30) = W5 := ⟨_, rfl⟩
  have HN5 : Hid (RpAt W5 w5.heap.size R (.slice oa R.prs.length oc)) := Lib.hid (hW5 ▸ rp_new w5 R _)
  have hbw : Below w5.heap.size w5 W5 := hW5 ▸ (Below.refl _ w5).alloc (Nat.le_refl _) _
  have hO5 := HO4.out.keep (hb5.block _ HO4.out.lt)
  have HO5 := Lib.hid (hO5.keep (hbw.block _ hO5.lt))
  have hB5 := HB4.out.trans (hb5.mono HB4.out.size)
  have HB5 := Lib.hid (hB5.trans (hbw.mono hB5.size))
  have HV5 := Lib.hid ((HV4.out.below hb5).below hbw)
  have HU6 := Lib.hid (HU5.out.below hbw)
  have hz5 : W5.heap.size = w5.heap.size + 1 := by rw [← hW5]; simp
  have HZ5 := Lib.hid hz5; clear hz5
  clear hb5 hbw hB5 hO5 c0 c1 c2 c3 HD HV4 HO4 HB4 HU5
  obtain ⟨n0, n1, n2, n3, n4, n5⟩ := HN5.out.cells
  have r0 : RowR W5.heap.size (W5.alloc (.cells #[.int .i64 R.err, .bool R.had, .bool R.did, .string R.val, .int .i64 R.n, .slice oa R.prs.length oc, .int .i64 10, .bool false, .bool false, .string ⟨#[]⟩, .int .i64 0, .slice none 0 0] 30)) (.slice (some ⟨W5.heap.size, 0, none⟩) 2 2) [(R, .slice oa R.prs.length oc), ({ err := 10 }, .slice none 0 0)] := World.ownsRow_lit (base := W5.heap.size) (e := 30) (size := 6) W5 #[.int .i64 R.err, .bool R.had, .bool R.did, .string R.val, .int .i64 R.n, .slice oa R.prs.length oc, .int .i64 10, .bool false, .bool false, .string ⟨#[]⟩, .int .i64 0, .slice none 0 0] 2 (Nat.le_refl _) (by decide) rfl
  have H0 := Lib.hid r0; clear r0
  have HB6 : Hid (Below w.heap.size w (W5.alloc (.cells #[.int .i64 R.err, .bool R.had, .bool R.did, .string R.val, .int .i64 R.n, .slice oa R.prs.length oc, .int .i64 10, .bool false, .bool false, .string ⟨#[]⟩, .int .i64 0, .slice none 0 0] 30))) := Lib.hid (HB5.out.alloc HB5.out.size _)
  have HBa : Hid (Below W5.heap.size W5 (W5.alloc (.cells #[.int .i64 R.err, .bool R.had, .bool R.did, .string R.val, .int .i64 R.n, .slice oa R.prs.length oc, .int .i64 10, .bool false, .bool false, .string ⟨#[]⟩, .int .i64 0, .slice none 0 0] 30))) := Lib.hid ((Below.refl _ _).alloc (Nat.le_refl _) _)
  obtain ⟨av, w6, hap, har, hag⟩ := append_reps _ W5.heap.size _ _ ra rs rc H0.out ((HRs.out.below HB5.out).below HBa.out) HNl.out ((HGs.out.below HB5.out).below HBa.out) (by simp; omega) (by simp) 37
  have HB7 : Hid (Below w.heap.size w w6) := Lib.hid (HB6.out.grown hag HB6.out.size (fun q e => by cases e; exact HB5.out.size))
  have HBb : Hid (Below W5.heap.size W5 w6) := Lib.hid (HBa.out.grown hag HBa.out.size (fun q e => by cases e; exact Nat.le_refl _))
  have HRw := Lib.hid har; clear har
  have HAp := Lib.hid hap; clear hap hag
  go_wp2_with (at_builtin; refine wpList_append_run _ rfl _ _ 37 rfl _ _ av w6 rfl rfl HAp.out ?_)
  have HO6 := Lib.hid (HO5.out.keep (HBb.out.block _ HO5.out.lt))
  have HN6 := Lib.hid (HN5.out.keep (HBb.out.block _ HN5.out.lt))
  have HV6 := Lib.hid (HV5.out.below HBb.out)
  have HU7 := Lib.hid (HU6.out.below HBb.out)
  have HG6 : Hid (Good w6 ([(R, .slice oa R.prs.length oc), ({ err := 10 }, .slice none 0 0)] ++ rs)) := Lib.hid (fun q hq => by
    simp only [List.cons_append, List.nil_append, List.mem_cons] at hq
    rcases hq with rfl | rfl | hq
    · exact HU7.out
    · exact Lst.nil _
    · exact (HGs.out q hq).below HB7.out)
  have hal : 0 < ([(R, .slice oa R.prs.length oc), ({ err := 10 }, .slice none 0 0)] ++ rs : List Rp).length ∧ ([(R, .slice oa R.prs.length oc), ({ err := 10 }, .slice none 0 0)] ++ rs : List Rp).length ≤ 12 := by simp; omega
  clear HO5 HN5 HV5 HU6 HB5 HB6 HBa HBb HAp H0 HRs HGs HNl n0 n1 n2 n3 n4 n5 HZ5 hW5
  generalize ([(R, .slice oa R.prs.length oc), ({ err := 10 }, .slice none 0 0)] ++ rs : List Rp) = al at *
  obtain ⟨hal0, hal1⟩ := hal
  obtain ⟨g, ac, rfl⟩ := HRw.out.addr hal0
  go_loopw [10] (fun i wr => ∃ j : Nat, j ≤ al.length ∧ i = .int .i64 j ∧ Hid (Below w6.heap.size w6 wr)) (fun i _ => al.length - (intOf i).toNat)
  case atStart => exact ⟨0, by omega, rfl, Lib.hid (Below.refl _ _)⟩
  case round =>
    obtain ⟨j, hj, rfl, HB⟩ := hrel
    by_cases hlt : j < al.length
    · have hltZ : (j : Int) < (al.length : Int) := by omega
      have h0Z : (0 : Int) ≤ (j : Int) := by omega
      have HE : Hid (∀ w', Below w6.heap.size w6 w' → _) := Lib.hid (fun w' hB => RowR.at (HRw.out.below hB) hlt)
      have HP := Lib.hid (HG6.out al[j] (List.getElem_mem hlt))
      generalize al[j] = pq at *
      obtain ⟨p, pu⟩ := pq
      dsimp only at *
      obtain ⟨xa, xc, rfl, -⟩ := id HP.out
      have HE1 := Lib.hid (HE.out wr HB.out)
      by_cases h60 : 60 < p.prs.length
      · have h60Z : (60 : Int) < (p.prs.length : Int) := by omega
        obtain ⟨e0, e1, e2, e3, e4, e5⟩ := HE1.out
        go_wp2_with fail
        with_reducible refine (HA.out _).mono ?_
        rintro e w7 ⟨rfl, hb⟩
        go_wp2
        go_ret
        exact ⟨rfl, (HB7.out.trans (HB.out.mono HB7.out.size)).trans (hb.mono (Nat.le_trans HB7.out.size HB.out.size))⟩
      have h60Z : ¬ ((60 : Int) < (p.prs.length : Int)) := by omega
      have HC1 : Hid (∀ w', Below w6.heap.size w6 w' → ((w'.cell? ⟨w.heap.size, 0, none⟩ = some (.int .i64 k) ∧ w'.cell? ⟨w.heap.size, 1, none⟩ = some (.string key) ∧ w'.cell? ⟨w.heap.size, 2, none⟩ = some (.string val) ∧ w'.cell? ⟨w.heap.size, 3, none⟩ = some (.string old)) ∧ (w'.cell? ⟨g, j * 6, none⟩ = some (.int .i64 p.err) ∧ w'.cell? ⟨g, j * 6 + 1, none⟩ = some (.bool p.had) ∧ w'.cell? ⟨g, j * 6 + 2, none⟩ = some (.bool p.did) ∧ w'.cell? ⟨g, j * 6 + 3, none⟩ = some (.string p.val) ∧ w'.cell? ⟨g, j * 6 + 4, none⟩ = some (.int .i64 p.n) ∧ w'.cell? ⟨g, j * 6 + 5, none⟩ = some (.slice xa p.prs.length xc)))) := Lib.hid (fun w' hB => ⟨(HO6.out.keep (hB.block _ HO6.out.lt)).cells, HE.out w' hB⟩)
      have HAl : Hid (∀ w', Below w6.heap.size w6 w' → Calls Try.prog _ _ w' _) := Lib.hid (fun w' hB => allows_any _ l k key val old p _ w' (HV6.out.below hB) (by omega) HSr.out (HP.out.below hB) (by omega) HK.out)
      have HAr : Hid (∀ w', Below w6.heap.size w6 w' → Calls Try.prog _ _ w' _) := Lib.hid (fun w' hB => rallows_any _ l k key val old p _ w' (HV6.out.below hB) (by omega) (HP.out.below hB) (by omega))
      have hml : (Dc.mayM l k key val old p).length ≤ 1000000 := by
        unfold Dc.mayM
        split
        · have := Dc.len_doM HSr.out k key val old; omega
        · omega
      generalize Dc.mayM l k key val old p = M at *
      generalize Dc.mayB l k key val old p = mb at *
      obtain ⟨⟨o0, o1, o2, o3⟩, e0, e1, e2, e3, e4, e5⟩ := HC1.out wr HB.out
      have B := Lib.hid HB.out.drew
      go_wp2_with fail
      go_region_held3 (fun w' => ((w'.cell? ⟨w.heap.size, 0, none⟩ = some (.int .i64 k) ∧ w'.cell? ⟨w.heap.size, 1, none⟩ = some (.string key) ∧ w'.cell? ⟨w.heap.size, 2, none⟩ = some (.string val) ∧ w'.cell? ⟨w.heap.size, 3, none⟩ = some (.string old)) ∧ (w'.cell? ⟨g, j * 6, none⟩ = some (.int .i64 p.err) ∧ w'.cell? ⟨g, j * 6 + 1, none⟩ = some (.bool p.had) ∧ w'.cell? ⟨g, j * 6 + 2, none⟩ = some (.bool p.did) ∧ w'.cell? ⟨g, j * 6 + 3, none⟩ = some (.string p.val) ∧ w'.cell? ⟨g, j * 6 + 4, none⟩ = some (.int .i64 p.n) ∧ w'.cell? ⟨g, j * 6 + 5, none⟩ = some (.slice xa p.prs.length xc))))
        (with_reducible exact HC1.out _ B.out)
        (first | (go_at_call 16; (with_reducible refine (HAl.out _ B.out).mono ?_); rintro e w7 ⟨nv7, rfl, hl7, hb7⟩; have HN7 := Lib.hid hl7; have B := Lib.hid (B.out.trans (hb7.mono B.out.size)); clear hl7 hb7) | fail)
      clear o0 o1 o2 o3 e0 e1 e2 e3 e4 e5
      obtain ⟨⟨o0, o1, o2, o3⟩, e0, e1, e2, e3, e4, e5⟩ := HC1.out w7 B.out
      have B7 := B
      have B := Lib.hid B.out.drew
      go_wp2_with fail
      go_region_held3 (fun w' => ((w'.cell? ⟨w.heap.size, 0, none⟩ = some (.int .i64 k) ∧ w'.cell? ⟨w.heap.size, 1, none⟩ = some (.string key) ∧ w'.cell? ⟨w.heap.size, 2, none⟩ = some (.string val) ∧ w'.cell? ⟨w.heap.size, 3, none⟩ = some (.string old)) ∧ (w'.cell? ⟨g, j * 6, none⟩ = some (.int .i64 p.err) ∧ w'.cell? ⟨g, j * 6 + 1, none⟩ = some (.bool p.had) ∧ w'.cell? ⟨g, j * 6 + 2, none⟩ = some (.bool p.did) ∧ w'.cell? ⟨g, j * 6 + 3, none⟩ = some (.string p.val) ∧ w'.cell? ⟨g, j * 6 + 4, none⟩ = some (.int .i64 p.n) ∧ w'.cell? ⟨g, j * 6 + 5, none⟩ = some (.slice xa p.prs.length xc))))
        (with_reducible exact HC1.out _ B.out)
        (first | (go_at_call 17; (with_reducible refine (HAr.out _ B.out).mono ?_); rintro e w8 ⟨xv8, rfl, hl8, hb8⟩; have HX8 := Lib.hid hl8; have HN8 := Lib.hid ((HN7.out.below (Below.refl _ _).drew).below hb8); have B := Lib.hid (B.out.trans (hb8.mono B.out.size)); clear hl8 hb8) | fail)
      clear o0 o1 o2 o3 e0 e1 e2 e3 e4 e5
      have HC2 : Hid (∀ w', Below w8.heap.size w8 w' → ((w'.cell? ⟨w5.heap.size, 0, none⟩ = some (.int .i64 R.err) ∧ w'.cell? ⟨w5.heap.size, 1, none⟩ = some (.bool R.had) ∧ w'.cell? ⟨w5.heap.size, 2, none⟩ = some (.bool R.did) ∧ w'.cell? ⟨w5.heap.size, 3, none⟩ = some (.string R.val) ∧ w'.cell? ⟨w5.heap.size, 4, none⟩ = some (.int .i64 R.n) ∧ w'.cell? ⟨w5.heap.size, 5, none⟩ = some (.slice oa R.prs.length oc)) ∧ (w'.cell? ⟨g, j * 6, none⟩ = some (.int .i64 p.err) ∧ w'.cell? ⟨g, j * 6 + 1, none⟩ = some (.bool p.had) ∧ w'.cell? ⟨g, j * 6 + 2, none⟩ = some (.bool p.did) ∧ w'.cell? ⟨g, j * 6 + 3, none⟩ = some (.string p.val) ∧ w'.cell? ⟨g, j * 6 + 4, none⟩ = some (.int .i64 p.n) ∧ w'.cell? ⟨g, j * 6 + 5, none⟩ = some (.slice xa p.prs.length xc)))) := Lib.hid (fun w' hB => ⟨(HN6.out.keep ((B.out.trans (hB.mono B.out.size)).block _ HN6.out.lt)).cells, HE.out w' (B.out.trans (hB.mono B.out.size))⟩)
      have T1 : Hid (∀ w', Below w8.heap.size w8 w' → Calls Try.prog _ #[nv7, xv8] w' (Gives (.bool true) w')) := Lib.hid (fun w' hB => by have := rsame_any nv7 xv8 M M w' (HN8.out.below hB) (HX8.out.below hB) hml; rw [Dc.eqB_refl] at this; exact this)
      have T2 : Hid (∀ w', Below w8.heap.size w8 w' → Calls Try.prog _ _ w' _) := Lib.hid (fun w' hB => sm_any R p _ _ w' (HU7.out.below (B.out.trans (hB.mono B.out.size))) (HP.out.below (B.out.trans (hB.mono B.out.size))) (by omega))
      have T3 : Hid (∀ w', Below w8.heap.size w8 w' → Calls Try.prog _ _ w' _) := Lib.hid (fun w' hB => rsm_any R p _ _ w' (HU7.out.below (B.out.trans (hB.mono B.out.size))) (HP.out.below (B.out.trans (hB.mono B.out.size))) (by omega))
      generalize Dc.sameB R p = sp at *
      have hmb : (mb != mb) = false := by simp
      have hsp : (sp != sp) = false := by simp
      obtain ⟨⟨o0, o1, o2, o3, o4, o5⟩, e0, e1, e2, e3, e4, e5⟩ := HC2.out w8 (Below.refl _ _)
      have B8 := B
      have B : Hid (Below w8.heap.size w8 w8.drew) := Lib.hid (Below.refl _ _).drew
      go_wp2_with fail
      go_region_held3 (fun w' => ((w'.cell? ⟨w5.heap.size, 0, none⟩ = some (.int .i64 R.err) ∧ w'.cell? ⟨w5.heap.size, 1, none⟩ = some (.bool R.had) ∧ w'.cell? ⟨w5.heap.size, 2, none⟩ = some (.bool R.did) ∧ w'.cell? ⟨w5.heap.size, 3, none⟩ = some (.string R.val) ∧ w'.cell? ⟨w5.heap.size, 4, none⟩ = some (.int .i64 R.n) ∧ w'.cell? ⟨w5.heap.size, 5, none⟩ = some (.slice oa R.prs.length oc)) ∧ (w'.cell? ⟨g, j * 6, none⟩ = some (.int .i64 p.err) ∧ w'.cell? ⟨g, j * 6 + 1, none⟩ = some (.bool p.had) ∧ w'.cell? ⟨g, j * 6 + 2, none⟩ = some (.bool p.did) ∧ w'.cell? ⟨g, j * 6 + 3, none⟩ = some (.string p.val) ∧ w'.cell? ⟨g, j * 6 + 4, none⟩ = some (.int .i64 p.n) ∧ w'.cell? ⟨g, j * 6 + 5, none⟩ = some (.slice xa p.prs.length xc))))
        (with_reducible exact HC2.out _ B.out)
        (first | (go_at_call 10; (with_reducible refine (T1.out _ B.out).mono ?_); rintro e w9 ⟨rfl, hb9⟩; have B := Lib.hid (B.out.trans (hb9.mono B.out.size)); clear hb9) | (go_at_call 18; (with_reducible refine (T2.out _ B.out).mono ?_); rintro e w9 ⟨rfl, hb9⟩; have B := Lib.hid (B.out.trans (hb9.mono B.out.size)); clear hb9) | (go_at_call 11; (with_reducible refine (T3.out _ B.out).mono ?_); rintro e w9 ⟨rfl, hb9⟩; have B := Lib.hid (B.out.trans (hb9.mono B.out.size)); clear hb9) | fail)
      clear o0 o1 o2 o3 o4 o5 e0 e1 e2 e3 e4 e5
      go_wp2
      go_roundw
      case rel => exact ⟨j + 1, by omega, by go_num, Lib.hid (B8.out.trans (B.out.mono B8.out.size))⟩
      case measure => simp [intOf]; omega
    · have hn : ¬ ((j : Int) < (al.length : Int)) := by omega
      go_wp2_with fail
      with_reducible refine (HA.out _).mono ?_
      rintro e w7 ⟨rfl, hb⟩
      go_wp2
      go_ret
      exact ⟨rfl, (HB7.out.trans (HB.out.mono HB7.out.size)).trans (hb.mono (Nat.le_trans HB7.out.size HB.out.size))⟩
end Go.Proofs.Ytigopifioijjlaa
