/-
  The walk of SpecKeeps. By an AI agent.
-/
import Derived.Test.YtigopifioijjlaaSpecAwake
set_option linter.unusedSimpArgs false
namespace Go.Proofs.Ytigopifioijjlaa
open Go.RowKit
open Dc (Pr Rpl)
/-- An operation in its box. -/
def boxO (w : World) (k : Int) (key val old : ByteArray) : World := w.alloc (.cells #[.int .i64 k, .string key, .string val, .string old] 27)
theorem boxO_op (w : World) (k : Int) (key val old : ByteArray) : OpAt (boxO w k key val old) w.heap.size k key val old := heap_alloc_new w _
/-- A call that is left with true. -/
theorem gives_then {w w1 : World} {e : Ending} {w2 : World} (h : Below w.heap.size w w1) (hb : Below w1.heap.size w1 w2) (he : e = .returned (.bool true)) : Gives (.bool true) w e w2 := ⟨he, h.trans (hb.mono h.size)⟩
set_option maxRecDepth 100000 in
set_option maxHeartbeats 8000000 in
theorem keeps_law (v : Value) (l : List Pr) (k : Int) (key val old : ByteArray) (w : World) (h : Lst w v l) :
    Calls Try.prog 5 #[v, .agg #[.int .i64 k, .string key, .string val, .string old]] w (Gives (.bool true) w) := by
  have HA := Lib.hid awake_any
  have HB0 := Lib.hid (op_below w k key val old)
  have HO := Lib.hid (boxO_op w k key val old)
  have HV := Lib.hid h
  have HV0 := Lib.hid (h.below HB0.out)
  obtain ⟨va, vc, rfl, -⟩ := h
  unfold boxO at HO
  by_cases h40 : 40 < l.length
  · have h40Z : (40 : Int) < (l.length : Int) := by omega
    go_enter Try.func5, Try.ntmps5
    go_wp2_with fail
    with_reducible refine (HA.out _).mono ?_
    rintro e w1 ⟨rfl, hb1⟩
    go_wp2
    go_ret
    exact gives_then HB0.out hb1 rfl
  have h40Z : ¬ ((40 : Int) < (l.length : Int)) := by omega
  have HSh := Lib.hid (short_any k key val old (w.alloc (.cells #[.int .i64 k, .string key, .string val, .string old] 27)))
  generalize shortB key val old = sb at *
  go_enter Try.func5, Try.ntmps5
  go_wp2_with fail
  with_reducible refine HSh.out.mono ?_
  rintro e w1 ⟨rfl, hb1⟩
  have HO1 := Lib.hid (HO.out.keep (hb1.block _ HO.out.lt))
  have HB1 := Lib.hid (HB0.out.trans (hb1.mono HB0.out.size))
  have HV1 := Lib.hid (HV0.out.below hb1)
  clear hb1 HSh HO HB0 HV0
  cases sb
  · go_wp2_with fail
    with_reducible refine (HA.out _).mono ?_
    rintro e w2 ⟨rfl, hb2⟩
    go_wp2
    go_ret
    exact gives_then HB1.out hb2 rfl
  have HRt := Lib.hid (rright_any _ l w1 HV1.out (by omega))
  have HRi := Lib.hid (Dc.rightB_iff l)
  generalize Dc.rightB l = rb at *
  go_wp2_with fail
  with_reducible refine HRt.out.mono ?_
  rintro e w2 ⟨rfl, hb2⟩
  have HO2 := Lib.hid (HO1.out.keep (hb2.block _ HO1.out.lt))
  have HB2 := Lib.hid (HB1.out.trans (hb2.mono HB1.out.size))
  have HV2 := Lib.hid (HV1.out.below hb2)
  clear hb2 HRt HO1 HB1 HV1
  cases rb
  · go_wp2_with fail
    with_reducible refine (HA.out _).mono ?_
    rintro e w3 ⟨rfl, hb3⟩
    go_wp2
    go_ret
    exact gives_then HB2.out hb3 rfl
  have HSr := Lib.hid (HRi.out.1 rfl); clear HRi
  have hlen := Dc.len_doM HSr.out k key val old
  have HSr2 := Lib.hid (Dc.srt_doM HSr.out k key val old)
  have HD := Lib.hid (do_any _ l k key val old w2 HV2.out (by omega) HSr.out)
  have H9 : Hid (k = 9 → Dc.doM l k key val old = [] ∧ (Dc.doR l k key val old).did = true) := Lib.hid (fun e => by
    have hl : Dc.longB k key val = false := long_none k key val (by omega)
    unfold Dc.doM Dc.doR
    rw [hl, e]; simp)
  have HDel : Hid (k ≠ 9 → Dc.del (Dc.doM l k key val old) key = Dc.del l key) := Lib.hid (Dc.del_doM HSr.out k key val old)
  have HKp : Hid (k ≠ 9 → (Dc.doR l k key val old).did = false → Dc.doM l k key val old = l) := Lib.hid (Dc.keeps k key val old)
  have HCh : Hid (k ≠ 9 → (Dc.doR l k key val old).did = true → (Dc.doR l k key val old).err = 0 ∧ (2 ≤ k ∧ k ≤ 7) ∧ ((k = 6 ∨ k = 7) → (Dc.gt l key).isSome = true ∧ Dc.gt (Dc.doM l k key val old) key = none) ∧ (¬ (k = 6 ∨ k = 7) → Dc.gt (Dc.doM l k key val old) key = some val)) := Lib.hid (fun h9 hd => by
    obtain ⟨h1, h2, h3, h4⟩ := Dc.changed k key val old h9 hd
    exact ⟨h1, h3, fun h6 => ⟨Dc.was k key old h6 h4, Dc.now_del k key val old h6 h2 h4⟩, fun h6 => Dc.now_put HSr.out k key val old (by omega) h2 h4⟩)
  generalize Dc.doM l k key val old = N at *
  generalize Dc.doR l k key val old = R at *
  obtain ⟨c0, c1, c2, c3⟩ := HO2.out.cells
  go_wp2_with fail
  with_reducible refine HD.out.mono ?_
  rintro e w3 ⟨nv, ru, rfl, hn3, hr3, hb3⟩
  obtain ⟨na, nc, rfl, -⟩ := id hn3
  obtain ⟨ra, rc, rfl, -⟩ := hr3
  obtain ⟨W3, hW3⟩ : ∃ W3, w3.alloc (.cells #[.int .i64 R.err, .bool R.had, .bool R.did, .string R.val, .int .i64 R.n, .slice ra R.prs.length rc] 30) = W3 := ⟨_, rfl⟩
  have HR3 : Hid (RpAt W3 w3.heap.size R (.slice ra R.prs.length rc)) := Lib.hid (hW3 ▸ rp_new w3 R _)
  have hbw : Below w3.heap.size w3 W3 := hW3 ▸ (Below.refl _ w3).alloc (Nat.le_refl _) _
  have hO3 := HO2.out.keep (hb3.block _ HO2.out.lt)
  have HO3 := Lib.hid (hO3.keep (hbw.block _ hO3.lt))
  have hB3 := HB2.out.trans (hb3.mono HB2.out.size)
  have HB3 := Lib.hid (hB3.trans (hbw.mono hB3.size))
  have HV3 := Lib.hid ((HV2.out.below hb3).below hbw)
  have HN3 := Lib.hid (hn3.below hbw)
  clear hb3 hbw hB3 hO3 hn3 c0 c1 c2 c3 HD HV2 HO2 HB2
  have hT := right_any _ N W3 HN3.out (by omega)
  rw [(Dc.rightB_iff N).2 HSr2.out] at hT
  have HT := Lib.hid hT; clear hT
  go_wp2_with fail
  try rw [hW3]
  clear hW3
  with_reducible refine HT.out.mono ?_
  rintro e w4 ⟨rfl, hb4⟩
  have HR4 := Lib.hid (HR3.out.keep (hb4.block _ HR3.out.lt))
  have HO4 := Lib.hid (HO3.out.keep (hb4.block _ HO3.out.lt))
  have HB4 := Lib.hid (HB3.out.trans (hb4.mono HB3.out.size))
  have HV4 := Lib.hid (HV3.out.below hb4)
  have HN4 := Lib.hid (HN3.out.below hb4)
  clear hb4 HT HR3 HO3 HB3 HV3 HN3
  obtain ⟨c0, c1, c2, c3⟩ := HO4.out.cells
  by_cases h9 : k = 9
  · obtain ⟨e1, e2⟩ := H9.out h9
    subst e1
    obtain ⟨r0, r1, r2, -⟩ := HR4.out.cells
    rw [e2] at r2
    clear HDel HKp HCh H9 e2
    subst h9
    go_wp2_with fail
    with_reducible refine (HA.out _).mono ?_
    rintro e w5 ⟨rfl, hb5⟩
    go_wp2
    go_ret
    exact gives_then HB4.out hb5 rfl
  have h9' : (k == 9) = false := by simp; exact h9
  have HDel1 := Lib.hid (HDel.out h9)
  have HKp1 := Lib.hid (HKp.out h9)
  have HCh1 := Lib.hid (HCh.out h9)
  clear HDel HKp HCh H9
  have HK : Hid (∀ w' : World, Below w4.heap.size w4 w' → (w'.cell? ⟨w.heap.size, 1, none⟩ = some (.string key))) := Lib.hid (fun w' hB => (HO4.out.keep (hB.block _ HO4.out.lt)).cells.2.1)
  have TN : Hid (∀ w', Below w4.heap.size w4 w' → Calls Try.prog _ #[.slice na N.length nc, .string key] w' (Tells (Dc.del N key) w')) := Lib.hid (fun w' hB => rdel_any _ N key w' (HN4.out.below hB) (by omega))
  have TM : Hid (∀ w', Below w4.heap.size w4 w' → Calls Try.prog _ #[.slice va l.length vc, .string key] w' (Tells (Dc.del N key) w')) := Lib.hid (fun w' hB => by rw [HDel1.out]; exact rdel_any _ l key w' (HV4.out.below hB) (by omega))
  have hdl := Dc.len_del N key
  have TS : Hid (∀ v u w', Lst w' v (Dc.del N key) → Lst w' u (Dc.del N key) → Calls Try.prog _ #[v, u] w' (Gives (.bool true) w')) := Lib.hid (fun v u w' h1 h2 => by have := rsame_any v u _ _ w' h1 h2 (by omega); rw [Dc.eqB_refl] at this; exact this)
  generalize Dc.del N key = X at *
  have B : Hid (Below w4.heap.size w4 w4.drew) := Lib.hid (Below.refl _ _).drew
  go_wp2_with fail
  go_region_held3 (fun w' => (w'.cell? ⟨w.heap.size, 1, none⟩ = some (.string key)))
    (with_reducible exact HK.out _ B.out)
    (first | (go_at_call 19; (with_reducible refine (TN.out _ B.out).mono ?_); rintro e w' ⟨dn, rfl, hr, hb⟩; have N1 := Lib.hid (Lst.of_row hr); (try have M1 := Lib.hid (M1.out.below hb)); have B := Lib.hid (B.out.trans (hb.mono B.out.size)); clear hr hb) | (go_at_call 19; (with_reducible refine (TM.out _ B.out).mono ?_); rintro e w' ⟨dm, rfl, hr, hb⟩; have M1 := Lib.hid (Lst.of_row hr); (try have N1 := Lib.hid (N1.out.below hb)); have B := Lib.hid (B.out.trans (hb.mono B.out.size)); clear hr hb) | (go_at_call 10; (with_reducible refine (TS.out _ _ _ N1.out M1.out).mono ?_); rintro e w' ⟨rfl, hb⟩; have B := Lib.hid (B.out.trans (hb.mono B.out.size)); clear hb) | fail)
  have HO5 := Lib.hid (HO4.out.keep (B.out.block _ HO4.out.lt))
  have HR5 := Lib.hid (HR4.out.keep (B.out.block _ HR4.out.lt))
  have HB5 := Lib.hid (HB4.out.trans (B.out.mono HB4.out.size))
  have HV5 := Lib.hid (HV4.out.below B.out)
  have HN5 := Lib.hid (HN4.out.below B.out)
  clear c0 c1 c2 c3 N1 M1 TN TM TS HK HO4 HR4 HB4 HV4 HN4 B
  obtain ⟨c0, c1, c2, c3⟩ := HO5.out.cells
  obtain ⟨r0, r1, r2, -⟩ := HR5.out.cells
  have hG1 := rget_any _ l key _ HV5.out (by omega)
  have hG2 := rget_any _ N key _ HN5.out (by omega)
  cases hd : R.did
  · obtain rfl := HKp1.out hd
    rw [hd] at r2
    rw [ans_eq] at hG1 hG2
    generalize (Dc.gt N key).getD ⟨#[]⟩ = s at *
    generalize (Dc.gt N key).isSome = i at *
    have HG1 := Lib.hid hG1; clear hG1
    have HG2 := Lib.hid hG2; clear hG2
    have hss : (s.toList == s.toList) = true := by simp
    have hii : (i == i) = true := by simp
    clear hd HCh1 HKp1 HDel1
    go_wp2_with fail
    with_reducible refine HG1.out.mono ?_
    rintro e w5 ⟨rfl, rfl⟩
    go_wp2_with fail
    with_reducible refine HG2.out.mono ?_
    rintro e w5 ⟨rfl, rfl⟩
    go_wp2_with fail
    with_reducible refine (HA.out _).mono ?_
    rintro e w6 ⟨rfl, hb6⟩
    go_wp2
    go_ret
    exact gives_then HB5.out hb6 rfl
  · obtain ⟨he, hk27, h6, h5⟩ := HCh1.out hd
    rw [hd] at r2
    rw [he] at r0
    clear hd he HCh1 HKp1 HDel1
    by_cases hk6 : k = 6 ∨ k = 7
    · obtain ⟨h1, h2⟩ := h6 hk6
      rw [ans_eq, h1] at hG1
      rw [h2] at hG2
      rw [ans_eq] at hG2
      simp only [Option.getD_none, Option.isSome_none] at hG2
      generalize (Dc.gt l key).getD ⟨#[]⟩ = s at *
      have HG1 := Lib.hid hG1; clear hG1
      have HG2 := Lib.hid hG2; clear hG2
      clear h1 h2 h5 h6
      rcases hk6 with rfl | rfl
      all_goals
        go_wp2_with fail
        with_reducible refine HG1.out.mono ?_
        rintro e w5 ⟨rfl, rfl⟩
        go_wp2_with fail
        with_reducible refine HG2.out.mono ?_
        rintro e w5 ⟨rfl, rfl⟩
        go_wp2_with fail
        with_reducible refine (HA.out _).mono ?_
        rintro e w6 ⟨rfl, hb6⟩
        go_wp2
        go_ret
        exact gives_then HB5.out hb6 rfl
    · have h2 := h5 hk6
      rw [ans_eq] at hG1
      rw [h2, ans_eq] at hG2
      simp only [Option.getD_some, Option.isSome_some] at hG2
      generalize (Dc.gt l key).getD ⟨#[]⟩ = s at *
      generalize (Dc.gt l key).isSome = i at *
      have HG1 := Lib.hid hG1; clear hG1
      have HG2 := Lib.hid hG2; clear hG2
      have k6 : (k == 6) = false := by simp; omega
      have k7 : (k == 7) = false := by simp; omega
      have hss : (val.toList == val.toList) = true := by simp
      clear h2 h5 h6
      go_wp2_with fail
      with_reducible refine HG1.out.mono ?_
      rintro e w5 ⟨rfl, rfl⟩
      go_wp2_with fail
      with_reducible refine HG2.out.mono ?_
      rintro e w5 ⟨rfl, rfl⟩
      go_wp2_with fail
      with_reducible refine (HA.out _).mono ?_
      rintro e w6 ⟨rfl, hb6⟩
      go_wp2
      go_ret
      exact gives_then HB5.out hb6 rfl
end Go.Proofs.Ytigopifioijjlaa
