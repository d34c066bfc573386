/-
  The walk of CrowdActs, answer by answer. By an AI agent.
-/
import Derived.Test.YtdbolhalgbiggaaCwAwake
import Derived.BigQuiet
set_option linter.unusedSimpArgs false
set_option linter.unusedVariables false
namespace Go.Proofs.Ytdbolhalgbiggaa
open Go.RowKit Go.Maps
open Ac (A)
theorem up_take (gs : List Nat) (k : Nat) : Kr.up (gs.take k) = (Kr.up gs).take k := by simp [Kr.up]
theorem sl_take {w : World} {B k : Nat} {ad : Option Addr} {gs : List Nat} (h : Sl .u64 w B ad (Kr.up gs)) : Sl .u64 w B ad (Kr.up (gs.take k)) := by
  rw [up_take]
  rcases h with h | ⟨b, off, e, hb, hc⟩
  · exact .inl (by rw [h]; simp)
  · refine .inr ⟨b, off, e, hb, fun j hj => ?_⟩
    rw [List.length_take] at hj
    rw [hc j (by omega), List.getElem_take]
/-- What the document's Crowd has left on its tape. -/
structure Tape2 (w : World) (t : Nat) (x : A) (m : Bool) : Prop where
  c2 : w.cell? ⟨t, 2, none⟩ = some (.bool m)
  c3 : w.cell? ⟨t, 3, none⟩ = some (.int .i64 x.k)
  c4 : w.cell? ⟨t, 4, none⟩ = some (.int .u64 (x.b : Int))
  c5 : w.cell? ⟨t, 5, none⟩ = some (.int .i64 x.c)
  c6 : w.cell? ⟨t, 6, none⟩ = some (.int .u64 (x.o : Int))
  c7 : w.cell? ⟨t, 7, none⟩ = some (.int .u64 (x.n : Int))
  lt : t < w.heap.size
theorem Tape2.below {w w' : World} {t : Nat} {x : A} {m : Bool} (h : Tape2 w t x m) (hb : Below w.heap.size w w') : Tape2 w' t x m :=
  ⟨(hb.cell (p := ⟨t, 2, none⟩) h.lt).trans h.c2, (hb.cell (p := ⟨t, 3, none⟩) h.lt).trans h.c3, (hb.cell (p := ⟨t, 4, none⟩) h.lt).trans h.c4, (hb.cell (p := ⟨t, 5, none⟩) h.lt).trans h.c5, (hb.cell (p := ⟨t, 6, none⟩) h.lt).trans h.c6, (hb.cell (p := ⟨t, 7, none⟩) h.lt).trans h.c7, Nat.lt_of_lt_of_le h.lt hb.size⟩
/-- The document's Crowd, on a new tape that holds the first k answers. -/
theorem crowd_round {B : Nat} {w : World} {cap k : Nat} {ad : Option Addr} {gs : List Nat} (d : Nat) (l : Int) (hs : Sl .u64 w B ad (Kr.up gs)) (hB : B ≤ w.heap.size) (hk : k ≤ gs.length) (hm : gs.length ≤ 1000) :
    Calls Try.prog 13 #[.pointer (some ⟨w.heap.size, 0, none⟩), .agg #[.int .u64 (d : Int), .int .i64 l]] (w.alloc (.cells #[.slice ad (k : Nat) cap, .int .i64 0, .bool false, .int .i64 0, .int .u64 0, .int .i64 0, .int .u64 0, .int .u64 0] 40))
      fun e w' => e = .returned (.bool (Cw.told (7 * Tb.grp l) (Cw.run (gs.take k)))) ∧ Tape2 w' w.heap.size (Cw.act d (Cw.run (gs.take k))) (Cw.more (Cw.run (gs.take k))) ∧ Below w.heap.size w w' := by
  have hlen : (gs.take k).length = k := by rw [List.length_take]; omega
  have hb : Below w.heap.size w (w.alloc (.cells #[.slice ad k cap, .int .i64 0, .bool false, .int .i64 0, .int .u64 0, .int .i64 0, .int .u64 0, .int .u64 0] 40)) := (Below.refl _ w).alloc (Nat.le_refl _) _
  have hts : Ts w.heap.size (w.alloc (.cells #[.slice ad k cap, .int .i64 0, .bool false, .int .i64 0, .int .u64 0, .int .i64 0, .int .u64 0, .int .u64 0] 40)) w.heap.size ad (gs.take k) cap 0 (Cw.act d (Cw.run (gs.take k))) := by
    refine ⟨Nat.le_refl _, ?_, ((sl_take hs).mono hB).below hb⟩
    rw [Nat.zero_min, decide_eq_false (by omega), if_neg (by omega), hlen]
    exact heap_alloc_new w _
  refine (rdcrowd_any d l hts (by omega)).mono ?_
  rintro e w' ⟨rfl, hT, hb'⟩
  have ho := hT.own
  rw [hlen] at ho
  have e1 : decide (k < 4) = Cw.more (Cw.run (gs.take k)) := by rw [Cw.more_run, hlen]
  have e2 : (if k < 4 then (Cw.act d (Cw.run (gs.take k)) : A) else ⟨0, 0, 0, 0, 0⟩) = Cw.act d (Cw.run (gs.take k)) := by
    by_cases h : k < 4
    · rw [if_pos h]
    · rw [if_neg h]
      rw [decide_eq_false h] at e1
      exact (Cw.act_none e1.symm).symm
  rw [e1, e2] at ho
  refine ⟨?_, ⟨ho.c2, ho.c3, ho.c4, ho.c5, ho.c6, ho.c7, ho.lt⟩, hb.trans hb'⟩
  unfold Cw.told
  rw [Cw.sum_run]
/-- Where a tape's answer lies. -/
theorem sl_at {w : World} {B n : Nat} {ad : Option Addr} {gs : List Nat} (h : Sl .u64 w B ad (Kr.up gs)) (hn : n < gs.length) : ∃ b0 off, ad = some ⟨b0, off, none⟩ ∧ w.cell? ⟨b0, off + n, none⟩ = some (.int .u64 ((gs.getD n 0 : Nat) : Int)) := by
  rcases h with h0 | ⟨b0, off, e, hb0, hc0⟩
  · have : (Kr.up gs).length = 0 := by rw [h0]; rfl
    rw [Kr.up_len] at this; omega
  · refine ⟨b0, off, e, ?_⟩
    have := hc0 n (by rw [Kr.up_len]; exact hn)
    rwa [Kr.up_get hn] at this
/-- A table's box. -/
theorem tab_new (w : World) (d l : Int) (F : Nat → Prop) (hF : ∀ j, F j → j < w.heap.size) : Aside F (tboxed w d l) w.heap.size (.cells #[.int .u64 d, .int .i64 l] 24 (0, 0)) := ⟨heap_alloc_new w _, fun e => by have := hF _ e; omega⟩
set_option maxHeartbeats 1000000 in
theorem cacts_out (d l t : Int) (A : Option Addr) (len c : Nat) (w : World) (hl : len ≤ maxLen) (h : 20 < len) :
    Calls Try.prog 3 #[.agg #[.int .u64 d, .int .i64 l], .int .i64 t, .slice A len c] w (Gives (.bool true) w) := by
  unfold maxLen at hl
  have HB := Lib.hid (tboxed_below w d l)
  have AW := Lib.hid (awake_any (tboxed w d l))
  go_enter Try.func3, Try.ntmps3
  go_wp2_with fail
  with_reducible refine AW.out.mono ?_
  rintro e w' ⟨rfl, hb⟩
  go_wp2
  go_ret
  exact ⟨rfl, HB.out.trans (hb.mono HB.out.size)⟩
set_option maxRecDepth 100000 in
set_option maxHeartbeats 4000000 in
theorem cacts_no (d : Nat) (l th : Int) (A : Option Addr) (len c : Nat) (w : World) (h : len ≤ 20) (hr : Tb.right (d : Int) (Tb.grp l) = false) :
    Calls Try.prog 3 #[.agg #[.int .u64 (d : Int), .int .i64 l], .int .i64 th, .slice A len c] w (Gives (.bool true) w) := by
  have HB0 := Lib.hid (tboxed_below w (d : Int) l)
  have AW := Lib.hid (fun W => awake_any W)
  have HA := Lib.hid (tab_new w (d : Int) l (fun _ => False) (fun _ e => e.elim))
  have KN := Lib.hid (cnew_any d l (tboxed w (d : Int) l))
  have KR := Lib.hid (fun W => by have := trright_any (d : Int) l W (by omega); rw [hr] at this; exact this)
  have KNO := Lib.hid (fun W => cnote_any d l th W)
  have KRO := Lib.hid (fun W => rnote_any d l th W)
  have QN := ne_act 4 (d : Int) (Tb.strp th) 0 1 4 (d : Int) (Tb.strp th) 0 1
  rw [eqB_self] at QN
  have QN := Lib.hid QN
  unfold av at KNO KRO
  dsimp only at KNO KRO
  generalize Tb.strp th = st at *
  have KA : Hid (∀ W q, Cb W q d l [] → Calls Try.prog 10 #[.pointer (some ⟨q, 0, none⟩)] W (Gives (.tuple #[.agg #[.int .i64 0, .int .u64 0, .int .i64 0, .int .u64 0, .int .u64 0], .bool false]) W)) := Lib.hid (fun W q h => cact_not h hr)
  have KT : Hid (∀ W q, Cb W q d l [] → Calls Try.prog 11 #[.pointer (some ⟨q, 0, none⟩), .int .u64 1] W (Ctook q d l [] W)) := Lib.hid (fun W q h => ctake_not h hr 1)
  have KS : Hid (∀ W q, Cb W q d l [] → Calls Try.prog 12 #[.pointer (some ⟨q, 0, none⟩)] W (Gives (.tuple #[.bool false, .bool false]) W)) := Lib.hid (fun W q h => cres_not h hr)
  clear hr
  have a3 : ¬ (20 : Int) < (len : Int) := by omega
  clear h
  go_enter Try.func3, Try.ntmps3
  go_wp2_with fail
  with_reducible refine KN.out.mono ?_
  rintro e w1 ⟨q, rfl, hq, hg, hb⟩
  have HA1 := Lib.hid (HA.out.below hb)
  have HG1 := Lib.hid hg
  have HQ := Lib.hid (show w.heap.size ≤ q from Nat.le_trans HB0.out.size hq)
  have HB1 := Lib.hid (HB0.out.trans (hb.mono HB0.out.size))
  clear hg hq hb KN HA HB0
  generalize hz : w.heap.size = z at HA1 ⊢
  have HZ := Lib.hid hz
  clear hz
  go_wp2
  have hA0 := HA1.out.cell 0 rfl
  have hA1 := HA1.out.cell 1 rfl
  refine wp_region_held_drew (S := fun w' => w'.cell? ⟨z, 0, none⟩ = some (.int .u64 (d : Int)) ∧ w'.cell? ⟨z, 1, none⟩ = some (.int .i64 l)) (by kernel_rfl) ⟨hA0, hA1⟩ (fun hS => ?_)
  refine wpAnyH_take (i := 0) (v := .agg #[.int .u64 (d : Int), .int .i64 l]) rfl (by kernel_rfl) (by kernel_rfl) (by kernel_rfl) (fun _ _ _ h => h) (Or.inl ⟨by kernel_rfl, fun w hS => by obtain ⟨s1, s2⟩ := hS; go_simp⟩) hS ?_
  refine wpAnyH_take (i := 1) (v := .int .i64 th) rfl (by kernel_rfl) (by kernel_rfl) (by kernel_rfl) (fun _ _ _ h => h) (Or.inl ⟨by kernel_rfl, fun w hS => by kernel_rfl⟩) hS ?_
  refine wpAnyH_take (i := 3) (v := .agg #[.int .u64 (d : Int), .int .i64 l]) rfl (by kernel_rfl) (by kernel_rfl) (by kernel_rfl) (fun _ _ _ h => h) (Or.inl ⟨by kernel_rfl, fun w hS => by obtain ⟨s1, s2⟩ := hS; go_simp⟩) hS ?_
  refine wpAnyH_take (i := 4) (v := .int .i64 th) rfl (by kernel_rfl) (by kernel_rfl) (by kernel_rfl) (fun _ _ _ h => h) (Or.inl ⟨by kernel_rfl, fun w hS => by kernel_rfl⟩) hS ?_
  clear hA0 hA1
  refine wpAnyH_ready (rs := [2]) (by kernel_rfl) (by simp) ?_
  refine AllReadyH.cons rfl (fun K hK => ?_) AllReadyH.nil
  go_simp
  go_at_call 7
  refine (KNO.out _).mono ?_
  rintro e w2 ⟨rfl, hb2⟩
  have hb12 := (Below.refl w1.heap.size w1).drew.trans (hb2.mono (Nat.le_refl _))
  have HA2 := Lib.hid (HA1.out.below hb12)
  have HG2 := Lib.hid (HG1.out.below hb12)
  have HB2 := Lib.hid (HB1.out.trans (hb12.mono HB1.out.size))
  clear hb2 hb12 HA1 HG1 HB1
  refine hK.out _ _ ⟨HA2.out.cell 0 rfl, HA2.out.cell 1 rfl⟩ (fun hS => ?_)
  clear hK K
  refine wpAnyH_ready (rs := [5]) (by kernel_rfl) (by simp) ?_
  refine AllReadyH.cons rfl (fun K hK => ?_) AllReadyH.nil
  go_simp
  go_at_call 8
  refine (KRO.out _).mono ?_
  rintro e w3 ⟨rfl, hb3⟩
  have HA3 := Lib.hid (HA2.out.below hb3)
  have HG3 := Lib.hid (HG2.out.below hb3)
  have HB3 := Lib.hid (HB2.out.trans (hb3.mono HB2.out.size))
  clear hb3 HA2 HG2 HB2
  refine hK.out _ _ ⟨HA3.out.cell 0 rfl, HA3.out.cell 1 rfl⟩ (fun hS => ?_)
  clear hK K
  have q0 := QN.out
  refine wpAnyH_take (i := 6) (v := .bool false) rfl (by kernel_rfl) (by kernel_rfl) (by kernel_rfl) (fun _ _ _ h => h) (Or.inl ⟨by kernel_rfl, fun w hS => by go_simp⟩) hS ?_
  refine wpAnyH_done (by kernel_rfl) ?_ _
  clear q0 hS QN KNO KRO
  have d0 := HA3.out.cell 0 rfl
  have d1 := HA3.out.cell 1 rfl
  clear HA3
  go_wp2_with fail
  with_reducible refine (KR.out _).mono ?_
  rintro e w4 ⟨rfl, hb4⟩
  have HG4 := Lib.hid (HG3.out.below hb4)
  have HB4 := Lib.hid (HB3.out.trans (hb4.mono HB3.out.size))
  have K1 := Lib.hid (KA.out _ _ HG4.out)
  clear hb4 HG3 HB3 d0 d1
  go_wp2_with fail
  with_reducible refine K1.out.mono ?_
  rintro e w5 ⟨rfl, hb5⟩
  obtain ⟨W5, hW5⟩ : ∃ W5, W5 = w5.alloc (.cells #[.int .i64 0, .int .u64 0, .int .i64 0, .int .u64 0, .int .u64 0] 30) := ⟨_, rfl⟩
  have hbb5 : Below w5.heap.size w5 W5 := by rw [hW5]; exact (Below.refl _ w5).alloc (Nat.le_refl _) _
  have hb45 := hb5.trans (hbb5.mono hb5.size)
  have HG5 := Lib.hid (HG4.out.below hb45)
  have HB5 := Lib.hid (HB4.out.trans (hb45.mono HB4.out.size))
  have K2 := Lib.hid (KT.out _ _ HG5.out)
  clear hb5 hbb5 hb45 K1 HG4 HB4
  go_wp2_with fail
  rw [← hW5]
  clear hW5
  with_reducible refine K2.out.mono ?_
  rintro e w6 ⟨rfl, hg6, ht6⟩
  have K3 := Lib.hid (KS.out _ _ hg6)
  have HB6 := Lib.hid (HB5.out.trans (ht6.below (fun k hk => by have := HQ.out; have := HZ.out; omega) HB5.out.size))
  clear hg6 ht6 K2 HB5
  go_wp2_with fail
  with_reducible refine K3.out.mono ?_
  rintro e w7 ⟨rfl, hb7⟩
  have HB7 := Lib.hid (HB6.out.trans (hb7.mono HB6.out.size))
  clear hb7 K3 HB6
  go_wp2_with fail
  with_reducible refine (AW.out _).mono ?_
  rintro e w8 ⟨rfl, hb8⟩
  have HB8 := Lib.hid (HB7.out.trans (hb8.mono HB7.out.size))
  clear hb8
  go_wp2
  go_ret
  exact ⟨rfl, HB8.out⟩
end Go.Proofs.Ytdbolhalgbiggaa
