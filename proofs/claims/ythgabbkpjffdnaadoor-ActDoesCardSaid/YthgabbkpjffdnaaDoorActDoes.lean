/-
  The walk of ActDoes. By an AI agent.
-/
import Derived.Test.YthgabbkpjffdnaaDoorActCommon
import Derived.Deep.RegionHeld3
import Derived.Test.YthgabbkpjffdnaaDoorSortEnd
set_option linter.unusedSimpArgs false
set_option linter.unusedVariables false
namespace Go.Proofs.YthgabbkpjffdnaaDoor
open Go.RowKit Go.Maps
open Mm (Mem Blk)
open Ac (A)
/-- The document's arena, made. -/
theorem rx_new {B : Nat} (n : Nat) (h1 : 1 ≤ n) (h2 : n ≤ 65536) (w : World) (hB : B ≤ w.heap.size) :
    ∃ G, Rx B (w.alloc (.cells #[.int .i64 (n : Int), .int .i64 0, .int .u64 0, .slice none 0 0] 33)) w.heap.size ⟨n, 0, 0, []⟩ G ∧ ∀ k, G k → k = w.heap.size := by
  refine ⟨_, ⟨.slice none 0 0, fun _ => 0, ⟨hB, ?_, ⟨by simp [encB], .inl ⟨rfl, rfl⟩⟩, fun b hb => by simp at hb, fun b hb => by simp at hb, ⟨h1, h2, trivial, Nat.zero_le _, fun b hb => by simp at hb⟩⟩, rfl⟩, fun k hk => ?_⟩
  · have := heap_alloc_new w (.cells #[.int .i64 (n : Int), .int .i64 0, .int .u64 0, .slice none 0 0] 33)
    simpa using this
  · rcases hk with hk | hk | ⟨b, hb, _⟩
    · exact hk
    · cases hk
    · simp at hb
theorem Tn.rother {F F' G : Nat → Prop} {w w' : World} (h : Tn F F' w w') {B p : Nat} {S : Mem} (ho : Rx B w p S G) (ha : ∀ k, G k → ¬ F k) : Rx B w' p S G ∧ ∀ k, G k → ¬ F' k :=
  ⟨ho.keep fun k hk => h.block k (ho.foot hk).2 (ha k hk), fun k hk e => (h.foot k e).elim (ha k hk) (fun e2 => by have := (ho.foot hk).2; omega)⟩
/-- Both arenas at the same memory, apart from one another. -/
structure Twin (B : Nat) (w : World) (p x : Nat) (S : Mem) : Prop where
  both : ∃ F G, Ax B w p S F ∧ Rx B w x S G ∧ ∀ k, G k → ¬ F k
theorem Twin.good {B : Nat} {w : World} {p x : Nat} {S : Mem} (h : Twin B w p x S) : Mm.Good S := by
  obtain ⟨F, G, hA, -⟩ := h
  exact hA.good
theorem Twin.below {B : Nat} {w w' : World} {p x : Nat} {S : Mem} (h : Twin B w p x S) (hb : Below w.heap.size w w') : Twin B w' p x S := by
  obtain ⟨F, G, hA, hR, hd⟩ := h
  exact ⟨F, G, hA.below hb (Nat.le_refl _), hR.below hb (Nat.le_refl _), hd⟩
/-- Two acts, one of each. -/
theorem Twin.steps {B : Nat} {w : World} {p x : Nat} {S S' : Mem} {s : A} {v : Int} (h : Twin B w p x S) (hB : B ≤ w.heap.size) (hD : DoesIt S s v S') (hM : MustIt S s v S') :
    Calls Tryd.prog 6 #[.pointer (some ⟨p, 0, none⟩), av s] w fun e w2 => e = .returned (.int .u64 v) ∧ Below B w w2 ∧
      Calls Tryd.prog 9 #[.pointer (some ⟨x, 0, none⟩), av s] w2 fun e w3 => e = .returned (.int .u64 v) ∧ Below B w2 w3 ∧ Twin B w3 p x S' := by
  obtain ⟨F, G, hA, hR, hd⟩ := h
  refine (hD B w p F hA hB).mono ?_
  rintro e w2 ⟨rfl, F2, hA2, ht⟩
  have hb2 := ht.below (fun k hk => (hA.foot hk).1) hB
  obtain ⟨hR2, hd2⟩ := ht.rother hR hd
  refine ⟨rfl, hb2, (hM B w2 x G hR2 (Nat.le_trans hB hb2.size)).mono ?_⟩
  rintro e w3 ⟨rfl, G3, hR3, ht3⟩
  obtain ⟨hA3, hd3⟩ := ht3.other hA2 (fun k hk hg => hd2 k hg hk)
  exact ⟨rfl, ht3.below (fun k hk => (hR2.foot hk).1) (Nat.le_trans hB hb2.size), F2, G3, hA3, hR3, fun k hk hf => hd3 k hf hk⟩
/-- Do of no arena. -/
theorem do_nil (w : World) : Calls Tryd.prog 6 #[.pointer none, .agg #[.int .i64 5, .int .u64 0, .int .i64 1, .int .u64 0, .int .u64 0]] w (Gives (.int .u64 0) w) :=
  dstep5 (.pointer none) 0 1 0 0 0 0 w (fun w' => Below w.heap.size w w') (by decide) (by decide) fun w1 hw1 => (alloc_nil 1 w1).mono fun _ _ ⟨he, hb⟩ => ⟨he, hw1.trans (hb.mono hw1.size)⟩
set_option maxRecDepth 100000 in
set_option maxHeartbeats 4000000 in
theorem does_out (c : Int) (a : Option Addr) (len cap : Nat) (w : World) (hm : len ≤ 9223372036854775807) (h : 60 < len ∨ c < 1 ∨ 2000 < c) (hNm : Nm w) (hP : Dt.Pow w) :
    Calls Tryd.prog 3 #[.int .i64 c, .slice a len cap] w (Gives (.bool true) w) := by
  have KN := Lib.hid (do_nil w)
  have KW : Hid (∀ w', Below w.heap.size w w' → Calls Tryd.prog 7 #[] w' (Gives (.bool true) w')) := Lib.hid fun w' hb => awake_any w' (hNm.below hb) (hP.below hb)
  clear hNm hP
  by_cases h1 : (60 : Int) < (len : Int)
  · clear h
    go_enter Tryd.func3, Tryd.ntmps3
    go_wp2_with fail
    with_reducible refine KN.out.mono ?_
    rintro e w1 ⟨rfl, hb⟩
    go_wp2_with fail
    with_reducible refine (KW.out _ hb).mono ?_
    rintro e w2 ⟨rfl, hb2⟩
    go_wp2
    go_ret
    exact ⟨rfl, hb.trans (hb2.mono hb.size)⟩
  have d1 : decide ((60 : Int) < (len : Int)) = false := by simpa using h1
  by_cases h2 : c < 1
  · clear h
    go_enter Tryd.func3, Tryd.ntmps3
    go_wp2_with fail
    with_reducible refine KN.out.mono ?_
    rintro e w1 ⟨rfl, hb⟩
    go_wp2_with fail
    with_reducible refine (KW.out _ hb).mono ?_
    rintro e w2 ⟨rfl, hb2⟩
    go_wp2
    go_ret
    exact ⟨rfl, hb.trans (hb2.mono hb.size)⟩
  have d2 : decide (c < 1) = false := by simpa using h2
  have h3 : 2000 < c := by omega
  clear h
  go_enter Tryd.func3, Tryd.ntmps3
  go_wp2_with fail
  with_reducible refine KN.out.mono ?_
  rintro e w1 ⟨rfl, hb⟩
  go_wp2_with fail
  with_reducible refine (KW.out _ hb).mono ?_
  rintro e w2 ⟨rfl, hb2⟩
  go_wp2
  go_ret
  exact ⟨rfl, hb.trans (hb2.mono hb.size)⟩
set_option maxRecDepth 100000 in
set_option maxHeartbeats 8000000 in
/-- ████ ActDoes. ████ -/
theorem does_any (n : Nat) (h1 : 1 ≤ n) (h2 : n ≤ 2000) (a : Option Addr) (N cap : Nat) (st : Nat → A) (w : World) (hN : N ≤ 60) (hst : ∀ j, j < N → Fits (st j))
    (hc : ∀ w', Below w.heap.size w w' → ∀ j, j < N → ActAt a w' j (st j)) (hNm : Nm w) (hP : Dt.Pow w) :
    Calls Tryd.prog 3 #[.int .i64 (n : Int), .slice a N cap] w (Gives (.bool true) w) := by
  have d1 : decide ((60 : Int) < (N : Int)) = false := by simp; omega
  have d2 : decide ((n : Int) < 1) = false := by simp; omega
  have d3 : decide ((2000 : Int) < (n : Int)) = false := by simp; omega
  have KN := Lib.hid (made_new n h1 (by omega) w)
  have KW : Hid (∀ w', Below w.heap.size w w' → Calls Tryd.prog 7 #[] w' (Gives (.bool true) w')) := Lib.hid fun w' hb => awake_any w' (hNm.below hb) (hP.below hb)
  clear hNm hP
  have HC := Lib.hid hc; clear hc
  have HST := Lib.hid hst; clear hst
  have RN : Hid (∀ w1 : World, w.heap.size ≤ w1.heap.size → ∃ G, Rx w.heap.size (w1.alloc (.cells #[.int .i64 (n : Int), .int .i64 0, .int .u64 0, .slice none 0 0] 33)) w1.heap.size ⟨n, 0, 0, []⟩ G ∧ ∀ k, G k → k = w1.heap.size) := Lib.hid fun w1 h => rx_new n h1 (by omega) w1 h
  go_enter Tryd.func3, Tryd.ntmps3
  go_wp2_with fail
  with_reducible refine KN.out.mono ?_
  rintro e w1 ⟨p, rfl, hp, F, ha, hb⟩
  obtain ⟨G, hr, hG⟩ := RN.out w1 hb.size
  have hbx : Below w1.heap.size w1 (w1.alloc (.cells #[.int .i64 (n : Int), .int .i64 0, .int .u64 0, .slice none 0 0] 33)) := (Below.refl _ w1).alloc (Nat.le_refl _) _
  have T0 : Hid (Twin w.heap.size (w1.alloc (.cells #[.int .i64 (n : Int), .int .i64 0, .int .u64 0, .slice none 0 0] 33)) p w1.heap.size ⟨n, 0, 0, []⟩) := Lib.hid ⟨F, G, ha.below hbx (Nat.le_refl _), hr, fun k hk hf => by have := hG k hk; have := (ha.foot hf).2; omega⟩
  have B0 := Lib.hid (hb.trans (hbx.mono hb.size))
  clear hbx hr hG ha hb hp
  go_wp2_with fail
  obtain ⟨x, hx⟩ : ∃ x, x = w1.heap.size := ⟨_, rfl⟩
  rw [← hx] at T0 ⊢
  clear hx
  generalize w1.alloc (.cells #[.int .i64 (n : Int), .int .i64 0, .int .u64 0, .slice none 0 0] 33) = w2 at T0 B0 ⊢
  go_loopw [7, 8, 9] (fun i _ _ wr => ∃ (k : Nat) (S : Mem), k ≤ N ∧ i = .int .i64 k ∧ Hid (Twin w.heap.size wr p x S) ∧ Hid (Below w.heap.size w wr) ∧ S.faults ≤ k ∧ S.last ≤ k) (fun i _ _ wr => N - (intOf i).toNat)
  case atStart => exact ⟨0, ⟨n, 0, 0, []⟩, by omega, rfl, T0, B0, Nat.le_refl _, Nat.le_refl _⟩
  case round =>
    clear T0 B0
    obtain ⟨k, S, hk, rfl, HT, HB, hf, hl⟩ := hrel
    by_cases hlt : k < N
    · have hltZ : (k : Int) < (N : Int) := by omega
      have hfit := HST.out k hlt
      have hcell := fun w' hb => HC.out w' hb k hlt
      rcases hs : st k with ⟨sk, sb, sc, so, sn⟩
      rw [hs] at hfit hcell
      obtain ⟨v, S', -, hf', hl', -, hD, hM⟩ := act_both S ⟨sk, sb, sc, so, sn⟩ HT.out.good hfit.b hfit.c1 (by omega) (by omega)
      have hdr : Below wr.heap.size wr wr.drew := (Below.refl _ _).drew
      have K := (HT.out.below hdr).steps (Nat.le_trans HB.out.size hdr.size) hD hM
      unfold av at K
      dsimp only at K
      have HK := Lib.hid K
      have KR : Hid (∀ w', Calls Tryd.prog 10 #[.agg #[.int .i64 sk, .int .u64 (sb : Int), .int .i64 sc, .int .u64 (so : Int), .int .u64 (sn : Int)]] w' (Gives (.bool (Ac.right ⟨sk, sb, sc, so, sn⟩)) w')) := Lib.hid fun w' => right_any ⟨sk, sb, sc, so, sn⟩ hfit.c1 w'
      have KRr : Hid (∀ w', Calls Tryd.prog 11 #[.agg #[.int .i64 sk, .int .u64 (sb : Int), .int .i64 sc, .int .u64 (so : Int), .int .u64 (sn : Int)]] w' (Gives (.bool (Ac.right ⟨sk, sb, sc, so, sn⟩)) w')) := Lib.hid fun w' => rright_any ⟨sk, sb, sc, so, sn⟩ w'
      have KS : Hid (∀ w', Calls Tryd.prog 12 #[.agg #[.int .i64 sk, .int .u64 (sb : Int), .int .i64 sc, .int .u64 (so : Int), .int .u64 (sn : Int)]] w' (Gives (.bool (Ac.writes ⟨sk, sb, sc, so, sn⟩)) w')) := Lib.hid fun w' => writes_any ⟨sk, sb, sc, so, sn⟩ hfit.c1 w'
      have KSr : Hid (∀ w', Calls Tryd.prog 13 #[.agg #[.int .i64 sk, .int .u64 (sb : Int), .int .i64 sc, .int .u64 (so : Int), .int .u64 (sn : Int)]] w' (Gives (.bool (Ac.writes ⟨sk, sb, sc, so, sn⟩)) w')) := Lib.hid fun w' => rwrites_any ⟨sk, sb, sc, so, sn⟩ w'
      generalize Ac.right ⟨sk, sb, sc, so, sn⟩ = rb at KR KRr
      generalize Ac.writes ⟨sk, sb, sc, so, sn⟩ = wb at KS KSr
      have hrr : (rb != rb) = false := by simp
      have hww : (wb != wb) = false := by simp
      have hvv : (v != v) = false := by simp
      clear K hD hM hs hfit
      obtain ⟨b, off, rfl, -⟩ := hcell wr HB.out
      have HCL : Hid (∀ w', Below w.heap.size w w' → w'.cell? ⟨b, off + k * 5, none⟩ = some (.int .i64 sk) ∧ w'.cell? ⟨b, off + k * 5 + 1, none⟩ = some (.int .u64 (sb : Int)) ∧ w'.cell? ⟨b, off + k * 5 + 2, none⟩ = some (.int .i64 sc) ∧ w'.cell? ⟨b, off + k * 5 + 3, none⟩ = some (.int .u64 (so : Int)) ∧ w'.cell? ⟨b, off + k * 5 + 4, none⟩ = some (.int .u64 (sn : Int))) := Lib.hid (fun w' hb => by
        obtain ⟨b', off', e, r⟩ := hcell w' hb
        cases e
        exact r)
      clear hcell
      have B : Hid (Below w.heap.size w wr.drew) := Lib.hid HB.out.drew
      obtain ⟨c0, c1, c2, c3, c4⟩ := HCL.out wr HB.out
      go_wp2_with fail
      go_region_held3 (fun w' => w'.cell? ⟨b, off + k * 5, none⟩ = some (.int .i64 sk) ∧ w'.cell? ⟨b, off + k * 5 + 1, none⟩ = some (.int .u64 (sb : Int)) ∧ w'.cell? ⟨b, off + k * 5 + 2, none⟩ = some (.int .i64 sc) ∧ w'.cell? ⟨b, off + k * 5 + 3, none⟩ = some (.int .u64 (so : Int)) ∧ w'.cell? ⟨b, off + k * 5 + 4, none⟩ = some (.int .u64 (sn : Int)))
        (with_reducible exact HCL.out _ B.out)
        (first
          | (go_at_call 6; (with_reducible refine HK.out.mono ?_); rintro e w3 ⟨rfl, hb, hK3⟩; have HK3 := Lib.hid hK3; have B := Lib.hid (B.out.trans hb); clear hb hK3)
          | (go_at_call 9; (with_reducible refine HK3.out.mono ?_); rintro e w4 ⟨rfl, hb, hT4⟩; have HT4 := Lib.hid hT4; have B := Lib.hid (B.out.trans hb); clear hb hT4)
          | fail)
      clear c0 c1 c2 c3 c4
      have HB4 := B
      clear B HK HK3 HT HB
      have HKP : Hid (∀ w', Below w4.heap.size w4 w' → (w'.cell? ⟨b, off + k * 5, none⟩ = some (.int .i64 sk) ∧ w'.cell? ⟨b, off + k * 5 + 1, none⟩ = some (.int .u64 (sb : Int)) ∧ w'.cell? ⟨b, off + k * 5 + 2, none⟩ = some (.int .i64 sc) ∧ w'.cell? ⟨b, off + k * 5 + 3, none⟩ = some (.int .u64 (so : Int)) ∧ w'.cell? ⟨b, off + k * 5 + 4, none⟩ = some (.int .u64 (sn : Int))) ∧ w'.cell? ⟨x, 1, none⟩ = some (.int .i64 (S'.faults : Int))) := Lib.hid (fun w' hb => by
        refine ⟨HCL.out w' (HB4.out.trans (hb.mono HB4.out.size)), ?_⟩
        obtain ⟨F, G, hA, ⟨vv, hh, hR, -⟩, -⟩ := (HT4.out.below hb).both
        exact hR.c1)
      have hlen : (nos S'.L).length ≤ 1000000 := Nat.le_trans (nos_len HT4.out.good) (by omega)
      have T1 : Hid (∀ w', Below w4.heap.size w4 w' → Calls Tryd.prog 14 #[.pointer (some ⟨p, 0, none⟩)] w' (Same (.int .i64 (Mm.used S'.L : Int)) w')) := Lib.hid (fun w' hb => by
        obtain ⟨F, G, hA, hR, -⟩ := (HT4.out.below hb).both
        exact used_any hA)
      have T2 : Hid (∀ w', Below w4.heap.size w4 w' → Calls Tryd.prog 15 #[.pointer (some ⟨x, 0, none⟩)] w' (Same (.int .i64 (Mm.used S'.L : Int)) w')) := Lib.hid (fun w' hb => by
        obtain ⟨F, G, hA, hR, -⟩ := (HT4.out.below hb).both
        exact rused_any hR)
      have T3 : Hid (∀ w', Below w4.heap.size w4 w' → Calls Tryd.prog 16 #[.pointer (some ⟨p, 0, none⟩)] w' (Same (.int .i64 (S'.faults : Int)) w')) := Lib.hid (fun w' hb => by
        obtain ⟨F, G, hA, hR, -⟩ := (HT4.out.below hb).both
        exact faults_any hA)
      have T6 : Hid (∀ w', Below w4.heap.size w4 w' → Calls Tryd.prog 18 #[.pointer (some ⟨p, 0, none⟩)] w' (Lists (fun ts => ts = nos S'.L) w')) := Lib.hid (fun w' hb => by
        obtain ⟨F, G, hA, hR, -⟩ := (HT4.out.below hb).both
        exact blocks_any hA (by omega))
      have T7 : Hid (∀ w', Below w4.heap.size w4 w' → Calls Tryd.prog 19 #[.pointer (some ⟨x, 0, none⟩)] w' (Row8 (nos S'.L) w')) := Lib.hid (fun w' hb => by
        obtain ⟨F, G, hA, hR, -⟩ := (HT4.out.below hb).both
        exact rblocks_any hR)
      have hus : ((Mm.used S'.L : Int) != (Mm.used S'.L : Int)) = false := by simp
      have hfs : ((S'.faults : Int) != (S'.faults : Int)) = false := by simp
      have B : Hid (Below w4.heap.size w4 w4.drew) := Lib.hid (Below.refl _ _).drew
      obtain ⟨⟨c0, c1, c2, c3, c4⟩, x1⟩ := HKP.out w4 (Below.refl _ _)
      go_wp2_with fail
      go_region_held3 (fun w' => (w'.cell? ⟨b, off + k * 5, none⟩ = some (.int .i64 sk) ∧ w'.cell? ⟨b, off + k * 5 + 1, none⟩ = some (.int .u64 (sb : Int)) ∧ w'.cell? ⟨b, off + k * 5 + 2, none⟩ = some (.int .i64 sc) ∧ w'.cell? ⟨b, off + k * 5 + 3, none⟩ = some (.int .u64 (so : Int)) ∧ w'.cell? ⟨b, off + k * 5 + 4, none⟩ = some (.int .u64 (sn : Int))) ∧ w'.cell? ⟨x, 1, none⟩ = some (.int .i64 (S'.faults : Int)))
        (with_reducible exact HKP.out _ B.out)
        (first
          | (go_at_call 10; (with_reducible refine (KR.out _).mono ?_); rintro e w' ⟨rfl, hb⟩; have B := Lib.hid (B.out.trans (hb.mono B.out.size)); clear hb)
          | (go_at_call 11; (with_reducible refine (KRr.out _).mono ?_); rintro e w' ⟨rfl, hb⟩; have B := Lib.hid (B.out.trans (hb.mono B.out.size)); clear hb)
          | (go_at_call 12; (with_reducible refine (KS.out _).mono ?_); rintro e w' ⟨rfl, hb⟩; have B := Lib.hid (B.out.trans (hb.mono B.out.size)); clear hb)
          | (go_at_call 13; (with_reducible refine (KSr.out _).mono ?_); rintro e w' ⟨rfl, hb⟩; have B := Lib.hid (B.out.trans (hb.mono B.out.size)); clear hb)
          | (go_at_call 14; (with_reducible refine (T1.out _ B.out).mono ?_); rintro e w' ⟨rfl, rfl⟩)
          | (go_at_call 15; (with_reducible refine (T2.out _ B.out).mono ?_); rintro e w' ⟨rfl, rfl⟩)
          | (go_at_call 16; (with_reducible refine (T3.out _ B.out).mono ?_); rintro e w' ⟨rfl, rfl⟩)
          | (go_at_call 18; (with_reducible refine (T6.out _ B.out).mono ?_); rintro e wA ⟨vA, tA, rfl, hA1, hA2, -, hb⟩; subst hA1; have RA := Lib.hid hA2; have B := Lib.hid (B.out.trans (hb.mono B.out.size)); clear hb hA2)
          | (go_at_call 19; (with_reducible refine (T7.out _ B.out).mono ?_); rintro e wB ⟨vB, rfl, hB2, hb⟩; have RA := Lib.hid (own_keep RA.out (fun k hk => hb.block k (RA.out.lt k hk).2)); have RB := Lib.hid hB2; have B := Lib.hid (B.out.trans (hb.mono B.out.size)); clear hb hB2)
          | (go_at_call 17; (with_reducible refine (words_same (nos S'.L) _ _ _ _ _ hlen RA.out RB.out).mono ?_); rintro e wW ⟨rfl, hb⟩; have B := Lib.hid (B.out.trans (hb.mono B.out.size)); clear hb)
          | fail)
      all_goals go_wp2
      all_goals go_roundw
      all_goals first | exact ⟨k + 1, S', by omega, by go_num, Lib.hid (HT4.out.below B.out), Lib.hid (HB4.out.trans (B.out.mono HB4.out.size)), by omega, by omega⟩ | (simp [intOf]; omega)
    · obtain rfl : k = N := by omega
      have hltZ : ¬ ((k : Int) < (k : Int)) := by omega
      go_wp2_with fail
      with_reducible refine (KW.out _ HB.out).mono ?_
      rintro e w9 ⟨rfl, hb9⟩
      go_wp2
      go_ret
      exact ⟨rfl, HB.out.trans (hb9.mono HB.out.size)⟩
end Go.Proofs.YthgabbkpjffdnaaDoor
