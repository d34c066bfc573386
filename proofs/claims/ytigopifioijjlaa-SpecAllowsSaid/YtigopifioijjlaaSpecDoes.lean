/-
  The walk of SpecDoes. By an AI agent.
-/
import Derived.Test.YtigopifioijjlaaSpecAwake
set_option linter.unusedSimpArgs false
namespace Go.Proofs.Ytigopifioijjlaa
open Go.RowKit
open Dc (Pr Rpl)
/-- An operation. -/
structure Opr where
  k : Int
  key : ByteArray
  val : ByteArray
  old : ByteArray
/-- Operations that lie under an address. -/
def Ops (w : World) (A : Option Addr) (os : List Opr) : Prop :=
  os = [] ∨ ∃ b off, A = some ⟨b, off, none⟩ ∧ b < w.heap.size ∧ ∀ j (h : j < os.length), w.cell? ⟨b, off + j * 4, none⟩ = some (.int .i64 os[j].k) ∧ w.cell? ⟨b, off + j * 4 + 1, none⟩ = some (.string os[j].key) ∧ w.cell? ⟨b, off + j * 4 + 2, none⟩ = some (.string os[j].val) ∧ w.cell? ⟨b, off + j * 4 + 3, none⟩ = some (.string os[j].old)
theorem Ops.at {w : World} {A : Option Addr} {os : List Opr} (h : Ops w A os) {j : Nat} (hj : j < os.length) : ∃ b off, A = some ⟨b, off, none⟩ ∧ ∀ w', Below w.heap.size w w' → w'.cell? ⟨b, off + j * 4, none⟩ = some (.int .i64 os[j].k) ∧ w'.cell? ⟨b, off + j * 4 + 1, none⟩ = some (.string os[j].key) ∧ w'.cell? ⟨b, off + j * 4 + 2, none⟩ = some (.string os[j].val) ∧ w'.cell? ⟨b, off + j * 4 + 3, none⟩ = some (.string os[j].old) := by
  rcases h with rfl | ⟨b, off, hA, hb, hc⟩
  · cases hj
  · obtain ⟨c0, c1, c2, c3⟩ := hc j hj
    exact ⟨b, off, hA, fun w' hB => ⟨(hB.cell (p := ⟨b, _, none⟩) hb).trans c0, (hB.cell (p := ⟨b, _, none⟩) hb).trans c1, (hB.cell (p := ⟨b, _, none⟩) hb).trans c2, (hB.cell (p := ⟨b, _, none⟩) hb).trans c3⟩⟩
set_option maxRecDepth 100000 in
set_option maxHeartbeats 8000000 in
theorem does_law (A : Option Addr) (c : Nat) (os : List Opr) (w : World) (h : Ops w A os) : Calls Try.prog 3 #[.slice A os.length c] w (Gives (.bool true) w) := by
  have HA := Lib.hid awake_any
  have HO := Lib.hid h; clear h
  by_cases h60 : 60 < os.length
  · have h60Z : (60 : Int) < (os.length : Int) := by omega
    go_enter Try.func3, Try.ntmps3
    go_wp2_with fail
    with_reducible refine (HA.out _).mono ?_
    rintro e w1 ⟨rfl, hb1⟩
    go_wp2
    go_ret
    exact ⟨rfl, hb1⟩
  have h60Z : ¬ ((60 : Int) < (os.length : Int)) := by omega
  have hmix : Try.prog.follows .mixedOrders = true := by kernel_rfl
  go_enter Try.func3, Try.ntmps3
  go_wp2
  go_loopw [3, 4, 5] (fun m x i wr => ∃ (j : Nat) (L : List Pr), j ≤ os.length ∧ i = .int .i64 j ∧ L.length ≤ j ∧ Hid (Dc.Srt L) ∧ Hid (Lst wr m L) ∧ Hid (Lst wr x L) ∧ Hid (Below w.heap.size w wr)) (fun _ _ i _ => os.length - (intOf i).toNat)
  case atStart => exact ⟨0, [], by omega, rfl, by simp, Lib.hid Dc.srt_nil, Lib.hid ⟨_, _, rfl, .inl rfl⟩, Lib.hid ⟨_, _, rfl, .inl rfl⟩, Lib.hid (((Below.refl _ w).alloc (Nat.le_refl _) _).alloc (by simp) _)⟩
  case round =>
    obtain ⟨j, L, hj, rfl, hLj, HSr, HM, HX, HB⟩ := hrel
    by_cases hlt : j < os.length
    · have hltZ : (j : Int) < (os.length : Int) := by omega
      obtain ⟨b, off, rfl, hc⟩ := HO.out.at hlt
      have HC := Lib.hid hc; clear hc
      obtain ⟨c0, c1, c2, c3⟩ := HC.out wr HB.out
      generalize os[j] = o at *
      obtain ⟨k, key, val, old⟩ := o
      dsimp only at *
      have HSh := Lib.hid (short_any k key val old wr)
      generalize shortB key val old = sb at *
      go_wp2_with fail
      with_reducible refine HSh.out.mono ?_
      rintro e w1 ⟨rfl, hb1⟩
      have HB1 := Lib.hid (HB.out.trans (hb1.mono HB.out.size))
      have HM1 := Lib.hid (HM.out.below hb1)
      have HX1 := Lib.hid (HX.out.below hb1)
      clear hb1 c0 c1 c2 c3 HM HX HB HSh
      obtain ⟨c0, c1, c2, c3⟩ := HC.out w1 HB1.out
      cases sb
      · go_wp2_with fail
        with_reducible refine (HA.out _).mono ?_
        rintro e w2 ⟨rfl, hb2⟩
        go_wp2
        go_ret
        exact ⟨rfl, HB1.out.trans (hb2.mono HB1.out.size)⟩
      · have hlen := Dc.len_doM HSr.out k key val old
        have HSr2 := Lib.hid (Dc.srt_doM HSr.out k key val old)
        have hrl := Dc.len_doR (l := L) k key val old
        obtain ⟨ma, mc, rfl, -⟩ := id HM1.out
        obtain ⟨xa, xc, rfl, -⟩ := id HX1.out
        have HD1 := Lib.hid (do_any _ L k key val old w1 HM1.out (by omega) HSr.out)
        have HD2 : Hid (∀ w2, Lst w2 (.slice xa L.length xc) L → Calls Try.prog _ _ w2 _) := Lib.hid (fun w2 h2 => rdo_any (.slice xa L.length xc) L k key val old w2 h2 (by omega))
        generalize Dc.doM L k key val old = N at *
        generalize Dc.doR L k key val old = R at *
        go_wp2_with fail
        with_reducible refine HD1.out.mono ?_
        rintro e w2 ⟨nv, ru, rfl, hn2, hr2, hb2⟩
        have HU2 := Lib.hid hr2
        obtain ⟨ra, rc, rfl, -⟩ := hr2
        obtain ⟨W2, hW2⟩ : ∃ W2, w2.alloc (.cells #[.int .i64 R.err, .bool R.had, .bool R.did, .string R.val, .int .i64 R.n, .slice ra R.prs.length rc] 30) = W2 := ⟨_, rfl⟩
        have HR2 : Hid (RpAt W2 w2.heap.size R (.slice ra R.prs.length rc)) := Lib.hid (hW2 ▸ rp_new w2 R _)
        have hbw : Below w2.heap.size w2 W2 := hW2 ▸ (Below.refl _ w2).alloc (Nat.le_refl _) _
        have hB2 := HB1.out.trans (hb2.mono HB1.out.size)
        have HB2 := Lib.hid (hB2.trans (hbw.mono hB2.size))
        have HM2 := Lib.hid ((HM1.out.below hb2).below hbw)
        have HX2 := Lib.hid ((HX1.out.below hb2).below hbw)
        have HN2 := Lib.hid (hn2.below hbw)
        have HV2 := Lib.hid (HU2.out.below hbw)
        clear hb2 hn2 hbw hB2 c0 c1 c2 c3 HD1 HU2
        have HD3 := Lib.hid (HD2.out W2 HX2.out); clear HD2
        obtain ⟨c0, c1, c2, c3⟩ := HC.out W2 HB2.out
        go_wp2_with fail
        try rw [hW2]
        clear hW2
        with_reducible refine HD3.out.mono ?_
        rintro e w3 ⟨yv, qu, rfl, hy3, hq3, hb3⟩
        have HU3 := Lib.hid hq3
        obtain ⟨qa, qc, rfl, -⟩ := hq3
        obtain ⟨W3, hW3⟩ : ∃ W3, w3.alloc (.cells #[.int .i64 R.err, .bool R.had, .bool R.did, .string R.val, .int .i64 R.n, .slice qa R.prs.length qc] 30) = W3 := ⟨_, rfl⟩
        have HQ3 : Hid (RpAt W3 w3.heap.size R (.slice qa R.prs.length qc)) := Lib.hid (hW3 ▸ rp_new w3 R _)
        have hbw : Below w3.heap.size w3 W3 := hW3 ▸ (Below.refl _ w3).alloc (Nat.le_refl _) _
        have hR3 := HR2.out.keep (hb3.block _ HR2.out.lt)
        have HR3 := Lib.hid (hR3.keep (hbw.block _ hR3.lt))
        have hB3 := HB2.out.trans (hb3.mono HB2.out.size)
        have HB3 := Lib.hid (hB3.trans (hbw.mono hB3.size))
        have HM3 := Lib.hid ((HM2.out.below hb3).below hbw)
        have HX3 := Lib.hid ((HX2.out.below hb3).below hbw)
        have HN3 := Lib.hid ((HN2.out.below hb3).below hbw)
        have HV3 := Lib.hid ((HV2.out.below hb3).below hbw)
        have HY3 := Lib.hid (hy3.below hbw)
        have HU4 := Lib.hid (HU3.out.below hbw)
        clear hb3 hbw hB3 hR3 hy3 c0 c1 c2 c3 HD3 HU3 HM1 HX1 HM2 HX2 HN2 HV2 HR2 HB2 HB1
        have HK : Hid (∀ w' : World, Below W3.heap.size W3 w' → ((w'.cell? ⟨b, off + j * 4, none⟩ = some (.int .i64 k) ∧ w'.cell? ⟨b, off + j * 4 + 1, none⟩ = some (.string key) ∧ w'.cell? ⟨b, off + j * 4 + 2, none⟩ = some (.string val) ∧ w'.cell? ⟨b, off + j * 4 + 3, none⟩ = some (.string old)) ∧ (w'.cell? ⟨w2.heap.size, 0, none⟩ = some (.int .i64 R.err) ∧ w'.cell? ⟨w2.heap.size, 1, none⟩ = some (.bool R.had) ∧ w'.cell? ⟨w2.heap.size, 2, none⟩ = some (.bool R.did) ∧ w'.cell? ⟨w2.heap.size, 3, none⟩ = some (.string R.val) ∧ w'.cell? ⟨w2.heap.size, 4, none⟩ = some (.int .i64 R.n) ∧ w'.cell? ⟨w2.heap.size, 5, none⟩ = some (.slice ra R.prs.length rc)) ∧ (w'.cell? ⟨w3.heap.size, 0, none⟩ = some (.int .i64 R.err) ∧ w'.cell? ⟨w3.heap.size, 1, none⟩ = some (.bool R.had) ∧ w'.cell? ⟨w3.heap.size, 2, none⟩ = some (.bool R.did) ∧ w'.cell? ⟨w3.heap.size, 3, none⟩ = some (.string R.val) ∧ w'.cell? ⟨w3.heap.size, 4, none⟩ = some (.int .i64 R.n) ∧ w'.cell? ⟨w3.heap.size, 5, none⟩ = some (.slice qa R.prs.length qc)))) := Lib.hid (fun w' hB => ⟨HC.out w' (HB3.out.trans (hB.mono HB3.out.size)), (HR3.out.keep (hB.block _ HR3.out.lt)).cells, (HQ3.out.keep (hB.block _ HQ3.out.lt)).cells⟩)
        have T1 : Hid (∀ w', Below W3.heap.size W3 w' → Calls Try.prog _ #[nv, yv] w' (Gives (.bool true) w')) := Lib.hid (fun w' hB => by have := rsame_any nv yv N N w' (HN3.out.below hB) (HY3.out.below hB) (by omega); rw [Dc.eqB_refl] at this; exact this)
        have T2 : Hid (∀ w', Below W3.heap.size W3 w' → Calls Try.prog _ #[.slice ma L.length mc, .slice xa L.length xc] w' (Gives (.bool true) w')) := Lib.hid (fun w' hB => by have := rsame_any _ _ L L w' (HM3.out.below hB) (HX3.out.below hB) (by omega); rw [Dc.eqB_refl] at this; exact this)
        have T3 : Hid (∀ w', Below W3.heap.size W3 w' → Calls Try.prog _ _ w' (Gives (.bool true) w')) := Lib.hid (fun w' hB => by have := rsm_any R R _ _ w' (HV3.out.below hB) (HU4.out.below hB) (by omega); rw [Dc.sameB_refl] at this; exact this)
        have T4 : Hid (∀ w', Below W3.heap.size W3 w' → Calls Try.prog _ _ w' (Gives (.bool (Dc.longB k key val)) w')) := Lib.hid (fun w' hB => long_any k key val old w')
        have T5 : Hid (∀ w', Below W3.heap.size W3 w' → Calls Try.prog _ _ w' (Gives (.bool (Dc.longB k key val)) w')) := Lib.hid (fun w' hB => rlong_any k key val old w')
        have T6 : Hid (∀ w', Below W3.heap.size W3 w' → Calls Try.prog _ _ w' (Gives (.bool true) w')) := Lib.hid (fun w' hB => by have := right_any nv N w' (HN3.out.below hB) (by omega); rw [(Dc.rightB_iff N).2 HSr2.out] at this; exact this)
        generalize Dc.longB k key val = lb at T4 T5
        have B : Hid (Below W3.heap.size W3 W3.drew) := Lib.hid (Below.refl _ _).drew
        obtain ⟨⟨c0, c1, c2, c3⟩, ⟨r0, r1, r2, r3, r4, r5⟩, q0, q1, q2, q3, q4, q5⟩ := HK.out W3 (Below.refl _ _)
        go_wp2_with fail
        try rw [hW3]
        clear hW3
        go_region_held3 (fun w' => ((w'.cell? ⟨b, off + j * 4, none⟩ = some (.int .i64 k) ∧ w'.cell? ⟨b, off + j * 4 + 1, none⟩ = some (.string key) ∧ w'.cell? ⟨b, off + j * 4 + 2, none⟩ = some (.string val) ∧ w'.cell? ⟨b, off + j * 4 + 3, none⟩ = some (.string old)) ∧ (w'.cell? ⟨w2.heap.size, 0, none⟩ = some (.int .i64 R.err) ∧ w'.cell? ⟨w2.heap.size, 1, none⟩ = some (.bool R.had) ∧ w'.cell? ⟨w2.heap.size, 2, none⟩ = some (.bool R.did) ∧ w'.cell? ⟨w2.heap.size, 3, none⟩ = some (.string R.val) ∧ w'.cell? ⟨w2.heap.size, 4, none⟩ = some (.int .i64 R.n) ∧ w'.cell? ⟨w2.heap.size, 5, none⟩ = some (.slice ra R.prs.length rc)) ∧ (w'.cell? ⟨w3.heap.size, 0, none⟩ = some (.int .i64 R.err) ∧ w'.cell? ⟨w3.heap.size, 1, none⟩ = some (.bool R.had) ∧ w'.cell? ⟨w3.heap.size, 2, none⟩ = some (.bool R.did) ∧ w'.cell? ⟨w3.heap.size, 3, none⟩ = some (.string R.val) ∧ w'.cell? ⟨w3.heap.size, 4, none⟩ = some (.int .i64 R.n) ∧ w'.cell? ⟨w3.heap.size, 5, none⟩ = some (.slice qa R.prs.length qc))))
          (with_reducible exact HK.out _ B.out)
          (first | (go_at_call 10; (with_reducible refine (T1.out _ B.out).mono ?_); rintro e w' ⟨rfl, hb⟩; have B := Lib.hid (B.out.trans (hb.mono B.out.size)); clear hb) | (go_at_call 10; (with_reducible refine (T2.out _ B.out).mono ?_); rintro e w' ⟨rfl, hb⟩; have B := Lib.hid (B.out.trans (hb.mono B.out.size)); clear hb) | (go_at_call 11; (with_reducible refine (T3.out _ B.out).mono ?_); rintro e w' ⟨rfl, hb⟩; have B := Lib.hid (B.out.trans (hb.mono B.out.size)); clear hb) | (go_at_call 12; (with_reducible refine (T4.out _ B.out).mono ?_); rintro e w' ⟨rfl, hb⟩; have B := Lib.hid (B.out.trans (hb.mono B.out.size)); clear hb) | (go_at_call 13; (with_reducible refine (T5.out _ B.out).mono ?_); rintro e w' ⟨rfl, hb⟩; have B := Lib.hid (B.out.trans (hb.mono B.out.size)); clear hb) | (go_at_call 14; (with_reducible refine (T6.out _ B.out).mono ?_); rintro e w' ⟨rfl, hb⟩; have B := Lib.hid (B.out.trans (hb.mono B.out.size)); clear hb) | fail)
        clear c0 c1 c2 c3 r0 r1 r2 r3 r4 r5 q0 q1 q2 q3 q4 q5
        go_wp2
        go_roundw
        case rel => exact ⟨j + 1, N, by omega, by go_num, by omega, HSr2, Lib.hid (HN3.out.below B.out), Lib.hid (HY3.out.below B.out), Lib.hid (HB3.out.trans (B.out.mono HB3.out.size))⟩
        case measure => simp [intOf]; omega
    · have hn : ¬ ((j : Int) < (os.length : Int)) := by omega
      go_wp2_with fail
      with_reducible refine (HA.out _).mono ?_
      rintro e w1 ⟨rfl, hb1⟩
      go_wp2
      go_ret
      exact ⟨rfl, HB.out.trans (hb1.mono HB.out.size)⟩
end Go.Proofs.Ytigopifioijjlaa
