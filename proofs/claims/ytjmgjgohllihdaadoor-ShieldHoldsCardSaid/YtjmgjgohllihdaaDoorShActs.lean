/-
  The walk of ShieldActs, answer by answer. By an AI agent.
-/
import Derived.Test.YtjmgjgohllihdaaDoorShAwake
import Derived.BigQuiet
set_option linter.unusedSimpArgs false
set_option linter.unusedVariables false
namespace Go.Proofs.YtjmgjgohllihdaaDoor
open Go.RowKit Go.Maps
open Ac (A)
theorem up_take (gs : List Nat) (k : Nat) : Kr.up (gs.take k) = (Kr.up gs).take k := by simp [Kr.up]
theorem sl_take {w : World} {B k : Nat} {ad : Option Addr} {gs : List Nat} (h : Sl .u64 w B ad (Kr.up gs)) : Sl .u64 w B ad (Kr.up (gs.take k)) := by
  rw [up_take]
  rcases h with h | ⟨b, off, e, hb, hc⟩
  · exact .inl (by rw [h]; simp)
  · refine .inr ⟨b, off, e, hb, fun j hj => ?_⟩
    rw [List.length_take] at hj
    rw [hc j (by omega), List.getElem_take]
/-- What the document's Shield has left on its tape. -/
structure Tape2 (w : World) (t : Nat) (x : A) (m : Bool) : Prop where
  c2 : w.cell? ⟨t, 2, none⟩ = some (.bool m)
  c3 : w.cell? ⟨t, 3, none⟩ = some (.int .i64 x.k)
  c4 : w.cell? ⟨t, 4, none⟩ = some (.int .u64 (x.b : Int))
  c5 : w.cell? ⟨t, 5, none⟩ = some (.int .i64 x.c)
  c6 : w.cell? ⟨t, 6, none⟩ = some (.int .u64 (x.o : Int))
  c7 : w.cell? ⟨t, 7, none⟩ = some (.int .u64 (x.n : Int))
  lt : t < w.heap.size
theorem Tape2.below {w w' : World} {t : Nat} {x : A} {m : Bool} (h : Tape2 w t x m) (hb : Below w.heap.size w w') : Tape2 w' t x m :=
  ⟨(hb.cell (p := ⟨t, 2, none⟩) h.lt).trans h.c2, (hb.cell (p := ⟨t, 3, none⟩) h.lt).trans h.c3, (hb.cell (p := ⟨t, 4, none⟩) h.lt).trans h.c4, (hb.cell (p := ⟨t, 5, none⟩) h.lt).trans h.c5, (hb.cell (p := ⟨t, 6, none⟩) h.lt).trans h.c6, (hb.cell (p := ⟨t, 7, none⟩) h.lt).trans h.c7, Nat.lt_of_lt_of_le h.lt hb.size⟩
/-- The document's Shield, on a new tape that holds the first k answers. -/
theorem shield_round {B : Nat} {w : World} {cap k : Nat} {ad : Option Addr} {gs : List Nat} (d th : Nat) (n₀ k₀ s : Int) (b i v : Nat) (hth : th ≤ 63) (hs : Sl .u64 w B ad (Kr.up gs)) (hB : B ≤ w.heap.size) (hk : k ≤ gs.length) (hv : v < 18446744073709551616) (hw : ∀ x ∈ gs, x < 18446744073709551616) (hm : gs.length ≤ 1000) :
    Calls Tryd.prog 11 #[.pointer (some ⟨w.heap.size, 0, none⟩), .agg (siteC (d : Int) (th : Int) n₀ k₀ s), .int .u64 (b : Int), .int .i64 (i : Int), .int .u64 (v : Int)] (w.alloc (.cells #[.slice ad (k : Nat) cap, .int .i64 0, .bool false, .int .i64 0, .int .u64 0, .int .i64 0, .int .u64 0, .int .u64 0] 40))
      fun e w' => ∃ u : Nat, e = .returned (.int .u64 (u : Int)) ∧ Tape2 w' w.heap.size (Sh.act d (3 + 2 * (th : Int)) b (i : Int) (Sh.run v (gs.take k))) (Sh.more (Sh.run v (gs.take k))) ∧ Below w.heap.size w w' ∧ (Sh.more (Sh.run v (gs.take k)) = false → u = (Sh.run v (gs.take k)).r) := by
  have hlen : (gs.take k).length = k := by rw [List.length_take]; omega
  have hb : Below w.heap.size w (w.alloc (.cells #[.slice ad (k : Nat) cap, .int .i64 0, .bool false, .int .i64 0, .int .u64 0, .int .i64 0, .int .u64 0, .int .u64 0] 40)) := (Below.refl _ w).alloc (Nat.le_refl _) _
  have hts : Ts w.heap.size (w.alloc (.cells #[.slice ad (k : Nat) cap, .int .i64 0, .bool false, .int .i64 0, .int .u64 0, .int .i64 0, .int .u64 0, .int .u64 0] 40)) w.heap.size ad (gs.take k) cap 0 (Sh.act d (3 + 2 * (th : Int)) b (i : Int) (Sh.run v (gs.take k))) := by
    refine ⟨Nat.le_refl _, ?_, ((sl_take hs).mono hB).below hb⟩
    rw [Nat.zero_min, decide_eq_false (by omega), if_neg (by omega), hlen]
    exact heap_alloc_new w _
  refine (rdshield_any d th n₀ k₀ s b i v hth hts hv (fun x hx => hw x (List.mem_of_mem_take hx)) (by omega)).mono ?_
  rintro e w' ⟨u, m, rfl, hu, hT, hmm, hb'⟩
  have ho := hT.own
  rw [hlen] at ho hmm
  have e1 : decide (k < m) = Sh.more (Sh.run v (gs.take k)) := by
    by_cases h : k < m
    · rw [decide_eq_true h, hmm.1 h]
    · rw [decide_eq_false h]
      cases h2 : Sh.more (Sh.run v (gs.take k)) with
      | false => rfl
      | true => exact absurd (hmm.2 h2) h
  have e2 : (if k < m then ((Sh.act d (3 + 2 * (th : Int)) b (i : Int) (Sh.run v (gs.take k))) : A) else ⟨0, 0, 0, 0, 0⟩) = (Sh.act d (3 + 2 * (th : Int)) b (i : Int) (Sh.run v (gs.take k))) := by
    by_cases h : k < m
    · rw [if_pos h]
    · rw [if_neg h]
      rw [decide_eq_false h] at e1
      exact (Sh.act_none e1.symm).symm
  rw [e1, e2] at ho
  exact ⟨u, rfl, ⟨ho.c2, ho.c3, ho.c4, ho.c5, ho.c6, ho.c7, ho.lt⟩, hb.trans hb', hu⟩
/-- Where a tape's answer lies. -/
theorem sl_at {w : World} {B n : Nat} {ad : Option Addr} {gs : List Nat} (h : Sl .u64 w B ad (Kr.up gs)) (hn : n < gs.length) : ∃ b0 off, ad = some ⟨b0, off, none⟩ ∧ w.cell? ⟨b0, off + n, none⟩ = some (.int .u64 ((gs.getD n 0 : Nat) : Int)) := by
  rcases h with h0 | ⟨b0, off, e, hb0, hc0⟩
  · have : (Kr.up gs).length = 0 := by rw [h0]; rfl
    rw [Kr.up_len] at this; omega
  · refine ⟨b0, off, e, ?_⟩
    have := hc0 n (by rw [Kr.up_len]; exact hn)
    rwa [Kr.up_get hn] at this
/-- A site's box. -/
theorem site_new (w : World) (d t n k s : Int) (F : Nat → Prop) (hF : ∀ j, F j → j < w.heap.size) : Aside F (sboxed w d t n k s) w.heap.size (.cells (siteC d t n k s) 24 (0, 0)) := ⟨heap_alloc_new w _, fun e => by have := hF _ e; omega⟩
/-- A slot's box, behind a site's. -/
abbrev slotC (a0 a1 a2 : Int) : Array Value := #[.int .u64 a0, .int .u64 a1, .int .u64 a2]
abbrev both (w : World) (d t n k s a0 a1 a2 : Int) : World := (sboxed w d t n k s).alloc (.cells (slotC a0 a1 a2) 25)
theorem both_below (w : World) (d t n k s a0 a1 a2 : Int) : Below w.heap.size w (both w d t n k s a0 a1 a2) := (sboxed_below w d t n k s).alloc (sboxed_below w d t n k s).size _
theorem both_size (w : World) (d t n k s a0 a1 a2 : Int) : (sboxed w d t n k s).heap.size = w.heap.size + 1 := by unfold sboxed; rw [World.size_alloc]
theorem both_site (w : World) (d t n k s a0 a1 a2 : Int) : Aside (fun _ => False) (both w d t n k s a0 a1 a2) w.heap.size (.cells (siteC d t n k s) 24 (0, 0)) :=
  (site_new w d t n k s (fun _ => False) (fun _ e => e.elim)).below ((Below.refl _ _).alloc (Nat.le_refl _) _)
theorem both_slot (w : World) (d t n k s a0 a1 a2 : Int) : Aside (fun _ => False) (both w d t n k s a0 a1 a2) (w.heap.size + 1) (.cells (slotC a0 a1 a2) 25 (0, 0)) := by
  have h := heap_alloc_new (sboxed w d t n k s) (.cells (slotC a0 a1 a2) 25)
  rw [both_size w d t n k s a0 a1 a2] at h
  exact ⟨h, fun e => e⟩
/-- The cell of the slot. -/
theorem cell_eq {a : Int} (h : 0 ≤ a) : wrap64 (wrap64 (a.tmod 5000) - 1) = a % 5000 - 1 := by
  rw [Int.tmod_eq_emod_of_nonneg h]
  unfold wrap64
  omega
set_option maxHeartbeats 1000000 in
theorem sacts_out (d t n k s a0 a1 a2 : Int) (A : Option Addr) (len c : Nat) (w : World) (hbd : Bd w) (hl : len ≤ maxLen) (h : 40 < len) :
    Calls Tryd.prog 3 #[.agg (siteC d t n k s), .agg (slotC a0 a1 a2), .slice A len c] w (Gives (.bool true) w) := by
  unfold maxLen at hl
  have HB := Lib.hid (both_below w d t n k s a0 a1 a2)
  have AW := Lib.hid (awake_any _ (hbd.below HB.out))
  clear hbd
  go_enter Tryd.func3, Tryd.ntmps3
  go_wp2_with fail
  with_reducible refine AW.out.mono ?_
  rintro e w' ⟨rfl, hb⟩
  go_wp2
  go_ret
  exact ⟨rfl, HB.out.trans (hb.mono HB.out.size)⟩
set_option maxRecDepth 100000 in
set_option maxHeartbeats 4000000 in
theorem sacts_no (d t n k s a0 a1 a2 : Int) (A : Option Addr) (len c : Nat) (w : World) (hbd : Bd w) (h : len ≤ 40) (h0 : 0 ≤ d) (h1 : 0 ≤ a1) (hr : Dk.right d t n k = false ∨ a1 % 5000 - 1 < 0) :
    Calls Tryd.prog 3 #[.agg (siteC d t n k s), .agg (slotC a0 a1 a2), .slice A len c] w (Gives (.bool true) w) := by
  have HB := Lib.hid (both_below w d t n k s a0 a1 a2)
  have AW := Lib.hid (fun W (hb : Below w.heap.size w W) => awake_any W (hbd.below hb))
  have HA := Lib.hid (both_site w d t n k s a0 a1 a2)
  have hci := cell_eq h1
  obtain ⟨ci, hc⟩ : ∃ ci, ci = a1 % 5000 - 1 := ⟨_, rfl⟩
  rw [← hc] at hci hr
  have KN := Lib.hid (snew_no d t n k s a0 ci a2 (both w d t n k s a0 a1 a2) (hbd.below HB.out) hr)
  have KR := fun W => drright_any d t n k s W h0
  have KA : Hid (∀ W q, Sb W q ⟨0, 0⟩ 0 0 0 0 → Calls Tryd.prog 8 #[.pointer (some ⟨q, 0, none⟩)] W (Gives (.tuple #[.agg #[.int .i64 0, .int .u64 0, .int .i64 0, .int .u64 0, .int .u64 0], .bool false]) W)) := Lib.hid (fun W q h => sact_any h (by simp) (by simp))
  have KT : Hid (∀ W q, Sb W q ⟨0, 0⟩ 0 0 0 0 → Calls Tryd.prog 9 #[.pointer (some ⟨q, 0, none⟩), .int .u64 1] W fun e w' => e = .returned (.tuple #[]) ∧ Sb w' q ⟨0, 0⟩ 0 0 0 0 ∧ Chg q W w') := Lib.hid (fun W q h => stake_any h (by simp) (by simp) 1 (by simp))
  have KS : Hid (∀ W q, Sb W q ⟨0, 0⟩ 0 0 0 0 → Calls Tryd.prog 10 #[.pointer (some ⟨q, 0, none⟩)] W (Same (.tuple #[.int .u64 0, .bool false]) W)) := Lib.hid (fun W q h => sres_any h)
  have a3 : ¬ (40 : Int) < (len : Int) := by omega
  have g0 := HA.out.cell 0 rfl
  have g1 := HA.out.cell 1 rfl
  have g2 := HA.out.cell 2 rfl
  have g3 := HA.out.cell 3 rfl
  have g4 := HA.out.cell 4 rfl
  have HS := Lib.hid (both_slot w d t n k s a0 a1 a2)
  have y0 := HS.out.cell 0 rfl
  have y2 := HS.out.cell 2 rfl
  obtain ⟨r, hrr⟩ : ∃ r, r = Dk.right d t n k := ⟨_, rfl⟩
  rw [← hrr] at hr KR
  have KR := Lib.hid KR
  have hcase : r = false ∨ (r = true ∧ ci < 0) := by
    cases r with
    | false => exact .inl rfl
    | true => rcases hr with e | e; cases e; exact .inr ⟨rfl, e⟩
  clear hbd hr h0 h1 hrr hc
  rcases hcase with rfl | ⟨rfl, hneg⟩
  all_goals
    go_enter Tryd.func3, Tryd.ntmps3
    go_wp2_with fail
    with_reducible refine KN.out.mono ?_
    rintro e w1 ⟨q, rfl, hq, hg, hb⟩
    have hA1 := HA.out.below hb
    have d0 := hA1.cell 0 rfl
    have d1 := hA1.cell 1 rfl
    have d2 := hA1.cell 2 rfl
    have d3 := hA1.cell 3 rfl
    have d4 := hA1.cell 4 rfl
    have HG1 := Lib.hid hg
    have HQ := Lib.hid (show w.heap.size ≤ q from Nat.le_trans HB.out.size hq)
    have HB1 := Lib.hid (HB.out.trans (hb.mono HB.out.size))
    clear hA1 hg hq hb KN HA HB g0 g1 g2 g3 g4 y0 y2 HS
    generalize w.heap.size = z at d0 d1 d2 d3 d4 ⊢
    go_wp2_with fail
    with_reducible refine (KR.out _).mono ?_
    rintro e w2 ⟨rfl, hb2⟩
    have HG2 := Lib.hid (HG1.out.below hb2)
    have HB2 := Lib.hid (HB1.out.trans (hb2.mono HB1.out.size))
    have K1 := Lib.hid (KA.out _ _ HG2.out)
    clear hb2 HG1 HB1 d0 d1 d2 d3 d4
    go_wp2_with fail
    with_reducible refine K1.out.mono ?_
    rintro e w3 ⟨rfl, hb3⟩
    obtain ⟨W3, hW3⟩ : ∃ W3, W3 = w3.alloc (.cells #[.int .i64 0, .int .u64 0, .int .i64 0, .int .u64 0, .int .u64 0] 32) := ⟨_, rfl⟩
    have hbb3 : Below w3.heap.size w3 W3 := by rw [hW3]; exact (Below.refl _ w3).alloc (Nat.le_refl _) _
    have hb23 := hb3.trans (hbb3.mono hb3.size)
    have HG3 := Lib.hid (HG2.out.below hb23)
    have HB3 := Lib.hid (HB2.out.trans (hb23.mono HB2.out.size))
    have K2 := Lib.hid (KT.out _ _ HG3.out)
    clear hb3 hbb3 hb23 K1 HG2 HB2
    go_wp2_with fail
    rw [← hW3]
    clear hW3
    with_reducible refine K2.out.mono ?_
    rintro e w4 ⟨rfl, hg4, ht4⟩
    have K3 := Lib.hid (KS.out _ _ hg4)
    have HB4 := Lib.hid (HB3.out.trans (ht4.below (fun k hk => by have := HQ.out; omega) HB3.out.size))
    clear hg4 ht4 K2 HB3
    go_wp2_with fail
    with_reducible refine K3.out.mono ?_
    rintro e w5 ⟨rfl, rfl⟩
    have K5 := Lib.hid (AW.out _ HB4.out)
    go_wp2_with fail
    with_reducible refine K5.out.mono ?_
    rintro e w5 ⟨rfl, hb5⟩
    have HB5 := Lib.hid (HB4.out.trans (hb5.mono HB4.out.size))
    clear hb5
    go_wp2
    go_ret
    exact ⟨rfl, HB5.out⟩
end Go.Proofs.YtjmgjgohllihdaaDoor
