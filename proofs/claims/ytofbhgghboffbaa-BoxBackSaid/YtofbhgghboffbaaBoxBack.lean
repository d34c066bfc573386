/-
  The walk of BoxBack. By an AI agent.
-/
import Derived.Test.YtofbhgghboffbaaBoxBack0
import Derived.Deep.RegionHeld3
import Derived.Deep.QuietTactic
set_option linter.unusedSimpArgs false
set_option linter.unusedVariables false
namespace Go.Proofs.Ytofbhgghboffbaa
open Go.RowKit
theorem quiet_of {f : FuncId} {args : Array Value} {w : World} {n : Nat} {v : Value} (h : Calls Try.prog f args (w.drewN n) (Same v (w.drewN n))) : Calls Try.prog f args (w.drewN n) fun e w'' => e = .returned v ∧ ∃ m, w'' = w.drewN m :=
  h.mono fun _ _ ⟨he, hm⟩ => ⟨he, n, hm.symm⟩
theorem ba_back (s : ByteArray) : (⟨s.data.toList.toArray⟩ : ByteArray) = s := by cases s; simp
theorem below_drewN {B : Nat} {w w' : World} (h : Below B w w') (n : Nat) : Below B w (w'.drewN n) := h.trans ⟨rfl, rfl, rfl, Nat.le_refl _, fun _ _ => rfl⟩
set_option maxRecDepth 100000 in
set_option maxHeartbeats 4000000 in
/-- A box that may be: what is asked of it, and of another one: all but how the two compare. -/
theorem back_yes (k v o0 o1 : ByteArray) (w : World) (hk : k.size ≤ 16) (hv : v.size ≤ 24) (h0 : o0.size ≤ 1000) (h1 : o1.size ≤ 1000) (ys : List Int) (t a b : Bool)
    (W2 : ∀ w, Calls Try.prog 6 #[.string o0, .string o1] w (MayBox ys t w)) (ha : (k.toList == o0.toList) = a) (hb : (v.toList == o1.toList) = b)
    (S : t = true → ∀ (w : World) A A' c c', Sl .u64 w w.heap.size A (Bx.box k.data.toList v.data.toList) → Sl .u64 w w.heap.size A' ys → Calls Try.prog 13 #[.slice A (Bx.box k.data.toList v.data.toList).length c, .slice A' ys.length c'] w (Gives (.bool (a && b)) w)) :
    Calls Try.prog 4 #[.string k, .string v, pair2 o0 o1] w (Gives (.bool true) w) := by
  have AW := Lib.hid awake_any
  have W1 := fun w => words_yes k v w hk hv
  have hlen : (Bx.box k.data.toList v.data.toList).length ≤ 6 ∧ 1 ≤ (Bx.box k.data.toList v.data.toList).length := by
    have e := Bx.box_size (k := k.data.toList) (v := v.data.toList) (by rw [ba_len]; exact hk) (by rw [ba_len]; exact hv)
    have := Bx.size_bd (Bx.hd k.data.toList.length v.data.toList.length)
    omega
  have R : ∀ w A c, Sl .u64 w w.heap.size A (Bx.box k.data.toList v.data.toList) → Calls Try.prog 8 #[.slice A (Bx.box k.data.toList v.data.toList).length c] w (Gives (.tuple #[.string k, .string v]) w) := fun w A c h => by
    have := read_any (Bx.box k.data.toList v.data.toList) A c w (by omega) Bx.box_wf h
    rw [Bx.key_box (by rw [ba_len]; exact hk), Bx.val_box (by rw [ba_len]; exact hk) (by rw [ba_len]; exact hv)] at this
    unfold texts at this
    rwa [ba_back, ba_back] at this
  have Z : ∀ w, Calls Try.prog 15 #[.int .u64 (Bx.hd k.size v.size)] w (Same (.int .i64 ((Bx.box k.data.toList v.data.toList).length : Int)) w) := fun w => by
    have hb := Bx.hd_bd k.size v.size
    have := size_any (Bx.hd k.size v.size) w hb.1 (by omega)
    have e := Bx.box_size (k := k.data.toList) (v := v.data.toList) (by rw [ba_len]; exact hk) (by rw [ba_len]; exact hv)
    rw [ba_len, ba_len] at e
    rwa [e] at this
  have H := fun w => head_any k v w (by unfold maxLen; omega) (by unfold maxLen; omega)
  have hhd : ∀ (h : 0 < (Bx.box k.data.toList v.data.toList).length), (Bx.box k.data.toList v.data.toList)[0] = Bx.hd k.size v.size := fun _ => by
    simp [Bx.box]
  generalize Bx.box k.data.toList v.data.toList = xs at *
  generalize Bx.hd k.size v.size = y at *
  have e1 : ((xs.length : Int) == 0) = false := beq_eq_false_iff_ne.2 (by omega)
  have e2 : ((xs.length : Int) != (xs.length : Int)) = false := by simp
  have e3 : (y != y) = false := by simp
  have e4 : (k.toList != k.toList) = false := by simp
  have e5 : (v.toList != v.toList) = false := by simp
  have HW1 := Lib.hid W1; clear W1
  have HW2 := Lib.hid W2; clear W2
  have HR := Lib.hid R; clear R
  have HZ := Lib.hid fun (w : World) (n : Nat) => quiet_of (Z (w.drewN n)); clear Z
  have HH := Lib.hid fun (w : World) (n : Nat) => quiet_of (H (w.drewN n)); clear H
  have HS := Lib.hid S; clear S
  have a0 : ¬ (1000 : Int) < (k.size : Int) := by omega
  have a1 : ¬ (1000 : Int) < (v.size : Int) := by omega
  have a2 : ¬ (1000 : Int) < (o0.size : Int) := by omega
  have a3 : ¬ (1000 : Int) < (o1.size : Int) := by omega
  have HHD := Lib.hid hhd; clear hhd
  have a4 : decide ((k.size : Int) ≤ 16) = true := decide_eq_true (by omega)
  have a5 : decide ((v.size : Int) ≤ 24) = true := decide_eq_true (by omega)
  go_enter Try.func4, Try.ntmps4
  go_wp2_with fail
  have hB0 : Below w.heap.size w (w.alloc (.cells #[.string o0, .string o1] 35)) := (Below.refl _ _).alloc (Nat.le_refl _) _
  have p0 : (w.alloc (.cells #[.string o0, .string o1] 35)).cell? ⟨w.heap.size, 0, none⟩ = some (.string o0) := by simp
  have p1 : (w.alloc (.cells #[.string o0, .string o1] 35)).cell? ⟨w.heap.size, 1, none⟩ = some (.string o1) := by simp
  have hp : w.heap.size < (w.alloc (.cells #[.string o0, .string o1] 35)).heap.size := by simp
  obtain ⟨p, hpw⟩ : ∃ p, p = w.heap.size := ⟨_, rfl⟩
  obtain ⟨W0, hW0⟩ : ∃ W0, W0 = w.alloc (.cells #[.string o0, .string o1] 35) := ⟨_, rfl⟩
  rw [← hpw, ← hW0] at p0 p1 hp
  rw [← hW0] at hB0
  rw [← hW0, ← hpw]
  clear hW0 hpw
  with_reducible refine (HW1.out _).mono ?_
  rintro e w1 ⟨A1, c1, rfl, hs1, hb1⟩
  have hB1 : Below w.heap.size w w1 := hB0.trans (hb1.mono hB0.size)
  have p0' := (hb1.cell (p := ⟨p, 0, none⟩) hp).trans p0
  have p1' := (hb1.cell (p := ⟨p, 1, none⟩) hp).trans p1
  have hp1 : p < w1.heap.size := Nat.lt_of_lt_of_le hp hb1.size
  clear p0 p1 hb1 hB0 hp
  go_wp2_with fail
  with_reducible refine (HR.out _ _ _ hs1).mono ?_
  rintro e w2 ⟨rfl, hb2⟩
  have hB2 : Below w.heap.size w w2 := hB1.trans (hb2.mono hB1.size)
  have p0 := (hb2.cell (p := ⟨p, 0, none⟩) hp1).trans p0'
  have p1 := (hb2.cell (p := ⟨p, 1, none⟩) hp1).trans p1'
  have hp2 : p < w2.heap.size := Nat.lt_of_lt_of_le hp1 hb2.size
  have hs2 := (hs1.below hb2).mono hb2.size
  clear p0' p1' hb2 hB1 hs1 hp1
  have hs2' := hs2
  rcases hs2 with h00 | ⟨b1, off1, rfl, hb1, hc1⟩
  · exfalso; rw [h00] at hlen; simp at hlen
  have g0 := hc1 0 (by omega)
  rw [HHD.out, Nat.add_zero] at g0
  clear hc1
  have hl1 : 0 < xs.length := by omega
  have hl2 : (0 : Int) < (xs.length : Int) := by omega
  go_wp2
  go_quiet ((first | (go_at_call 15; with_reducible exact HZ.out _ _) | (go_at_call 14; with_reducible exact HH.out _ _)))
  go_wp2_with fail
  with_reducible refine (HW2.out _).mono ?_
  rintro e w3 ⟨A3, c3, rfl, hs3, hb3⟩
  have hbq := below_drewN hB2 nq
  have hB3 : Below w.heap.size w w3 := hbq.trans (hb3.mono hbq.size)
  have p0' := (hb3.cell (p := ⟨p, 0, none⟩) hp2).trans p0
  have p1' := (hb3.cell (p := ⟨p, 1, none⟩) hp2).trans p1
  have hp3 : p < w3.heap.size := Nat.lt_of_lt_of_le hp2 hb3.size
  have hs4 : ∀ W, Below w3.heap.size w3 W → Sl .u64 W W.heap.size (some ⟨b1, off1, none⟩) xs := fun W hW => by
    have h1 : Below (w2.drewN nq).heap.size (w2.drewN nq) W := hb3.trans (hW.mono hb3.size)
    exact (hs2'.below (below_drewN (Below.refl w2.heap.size w2) nq)).below h1 |>.mono h1.size
  have hs5 : ∀ W, Below w3.heap.size w3 W → Sl .u64 W W.heap.size A3 ys := fun W hW => (hs3.below hW).mono hW.size
  have D3 := Lib.hid fun (e : t = true) W hW c c' => HS.out e W _ _ c c' (hs4 W hW) (hs5 W hW)
  have P0 := Lib.hid p0'
  have P1 := Lib.hid p1'
  have D0 := Lib.hid hB3
  clear hs4 hs5 hs3 hb3 hbq hB3 hB2 p0 p1 hp2 hb1 g0 hs2' HS
  cases t
  · go_wp2
    refine wp_region_any (by kernel_rfl) ?_
    change wpAny _ _ _ _ _ _ _ (World.drew _)
    refine wpAny_take (i := 0) (v := .bool false) rfl (by kernel_rfl) (by kernel_rfl) (by kernel_rfl) (fun _ _ _ h => h) (Or.inl ⟨by kernel_rfl, fun w => by kernel_rfl⟩) ?_
    refine wpAny_take (i := 1) (v := .bool true) rfl (by kernel_rfl) (by kernel_rfl) (by kernel_rfl) (fun _ _ _ h => h) (Or.inl ⟨by kernel_rfl, fun w => by kernel_rfl⟩) ?_
    refine wpAny_take (i := 2) (v := .bool true) rfl (by kernel_rfl) (by kernel_rfl) (by kernel_rfl) (fun _ _ _ h => h) (Or.inl ⟨by kernel_rfl, fun w => by kernel_rfl⟩) ?_
    refine wpAny_take (i := 3) (v := undef) rfl (by kernel_rfl) (by kernel_rfl) (by kernel_rfl) (fun _ _ _ h => h) (Or.inr ⟨by kernel_rfl, rfl⟩) ?_
    refine wpAny_take (i := 4) (v := undef) rfl (by kernel_rfl) (by kernel_rfl) (by kernel_rfl) (fun _ _ _ h => h) (Or.inr ⟨by kernel_rfl, rfl⟩) ?_
    refine wpAny_take (i := 5) (v := undef) rfl (by kernel_rfl) (by kernel_rfl) (by kernel_rfl) (fun _ _ _ h => h) (Or.inr ⟨by kernel_rfl, rfl⟩) ?_
    refine wpAny_take (i := 6) (v := undef) rfl (by kernel_rfl) (by kernel_rfl) (by kernel_rfl) (fun _ _ _ h => h) (Or.inr ⟨by kernel_rfl, rfl⟩) ?_
    refine wpAny_take (i := 7) (v := undef) rfl (by kernel_rfl) (by kernel_rfl) (by kernel_rfl) (fun _ _ _ h => h) (Or.inr ⟨by kernel_rfl, rfl⟩) ?_
    refine wpAny_take (i := 8) (v := undef) rfl (by kernel_rfl) (by kernel_rfl) (by kernel_rfl) (fun _ _ _ h => h) (Or.inr ⟨by kernel_rfl, rfl⟩) ?_
    refine wpAny_take (i := 9) (v := undef) rfl (by kernel_rfl) (by kernel_rfl) (by kernel_rfl) (fun _ _ _ h => h) (Or.inr ⟨by kernel_rfl, rfl⟩) ?_
    refine wpAny_take (i := 10) (v := undef) rfl (by kernel_rfl) (by kernel_rfl) (by kernel_rfl) (fun _ _ _ h => h) (Or.inr ⟨by kernel_rfl, rfl⟩) ?_
    refine wpAny_take (i := 11) (v := undef) rfl (by kernel_rfl) (by kernel_rfl) (by kernel_rfl) (fun _ _ _ h => h) (Or.inr ⟨by kernel_rfl, rfl⟩) ?_
    refine wpAny_take (i := 12) (v := undef) rfl (by kernel_rfl) (by kernel_rfl) (by kernel_rfl) (fun _ _ _ h => h) (Or.inr ⟨by kernel_rfl, rfl⟩) ?_
    refine wpAny_take (i := 13) (v := undef) rfl (by kernel_rfl) (by kernel_rfl) (by kernel_rfl) (fun _ _ _ h => h) (Or.inr ⟨by kernel_rfl, rfl⟩) ?_
    refine wpAny_take (i := 14) (v := undef) rfl (by kernel_rfl) (by kernel_rfl) (by kernel_rfl) (fun _ _ _ h => h) (Or.inr ⟨by kernel_rfl, rfl⟩) ?_
    refine wpAny_take (i := 15) (v := undef) rfl (by kernel_rfl) (by kernel_rfl) (by kernel_rfl) (fun _ _ _ h => h) (Or.inr ⟨by kernel_rfl, rfl⟩) ?_
    refine wpAny_take (i := 16) (v := undef) rfl (by kernel_rfl) (by kernel_rfl) (by kernel_rfl) (fun _ _ _ h => h) (Or.inr ⟨by kernel_rfl, rfl⟩) ?_
    refine wpAny_take (i := 17) (v := .bool true) rfl (by kernel_rfl) (by kernel_rfl) (by kernel_rfl) (fun _ _ _ h => h) (Or.inl ⟨by kernel_rfl, fun w => by kernel_rfl⟩) ?_
    refine wpAny_take (i := 18) (v := .bool true) rfl (by kernel_rfl) (by kernel_rfl) (by kernel_rfl) (fun _ _ _ h => h) (Or.inl ⟨by kernel_rfl, fun w => by kernel_rfl⟩) ?_
    refine wpAny_ready (rs := [19]) (by kernel_rfl) (by simp) ?_
    refine AllReady.cons rfl (fun K hK => ?_) AllReady.nil
    go_simp
    go_at_call 5
    refine (AW.out _).mono ?_
    rintro e w5 ⟨rfl, b5⟩
    have B5 : Below w3.heap.size w3 w5 := below_then (Below.refl _ w3).drew b5
    refine hK _ _ ?_
    clear hK K
    refine wpAny_take (i := 20) (v := .bool true) rfl (by kernel_rfl) (by kernel_rfl) (by kernel_rfl) (fun _ _ _ h => h) (Or.inl ⟨by kernel_rfl, fun w => by kernel_rfl⟩) ?_
    refine wpAny_take (i := 21) (v := .bool true) rfl (by kernel_rfl) (by kernel_rfl) (by kernel_rfl) (fun _ _ _ h => h) (Or.inl ⟨by kernel_rfl, fun w => by kernel_rfl⟩) ?_
    refine wpAny_done (by kernel_rfl) ?_ _
    all_goals go_wp2
    all_goals go_ret
    all_goals exact ⟨rfl, D0.out.trans (B5.mono D0.out.size)⟩
  · have D4 := Lib.hid (D3.out rfl)
    clear D3
    have D5 : Hid (∀ W, Below w3.heap.size w3 W → ∀ c c', Calls Try.prog 13 #[.slice (some ⟨b1, off1, none⟩) xs.length c, .slice A3 ys.length c'] W (Gives (.bool (a && b)) W)) := D4
    clear D4
    have q0 : ((a && b) == (a && b)) = true := by simp
    cases a
    · rw [Bool.false_and] at D5 q0
      go_wp2
      refine wp_region_held_drew (S := fun w' => w'.cell? ⟨p, 0, none⟩ = some (.string o0)) (by kernel_rfl) P0.out (fun hS => ?_)
      refine wpAnyH_take (i := 0) (v := .bool true) rfl (by kernel_rfl) (by kernel_rfl) (by kernel_rfl) (fun _ _ _ h => h) (Or.inl ⟨by kernel_rfl, fun w _ => by kernel_rfl⟩) hS ?_
      refine wpAnyH_take (i := 1) (v := .bool false) rfl (by kernel_rfl) (by kernel_rfl) (by kernel_rfl) (fun _ _ _ h => h) (Or.inl ⟨by kernel_rfl, fun w _ => by kernel_rfl⟩) hS ?_
      refine wpAnyH_take (i := 2) (v := .bool false) rfl (by kernel_rfl) (by kernel_rfl) (by kernel_rfl) (fun _ _ _ h => h) (Or.inl ⟨by kernel_rfl, fun w _ => by kernel_rfl⟩) hS ?_
      refine wpAnyH_take (i := 3) (v := .slice (some ⟨b1, off1, none⟩) xs.length c1) rfl (by kernel_rfl) (by kernel_rfl) (by kernel_rfl) (fun _ _ _ h => h) (Or.inl ⟨by kernel_rfl, fun w _ => by kernel_rfl⟩) hS ?_
      refine wpAnyH_take (i := 4) (v := .slice A3 ys.length c3) rfl (by kernel_rfl) (by kernel_rfl) (by kernel_rfl) (fun _ _ _ h => h) (Or.inl ⟨by kernel_rfl, fun w _ => by kernel_rfl⟩) hS ?_
      refine wpAnyH_take (i := 6) (v := .string k) rfl (by kernel_rfl) (by kernel_rfl) (by kernel_rfl) (fun _ _ _ h => h) (Or.inl ⟨by kernel_rfl, fun w _ => by kernel_rfl⟩) hS ?_
      refine wpAnyH_take (i := 7) (v := .pointer (some ⟨p, 0, none⟩)) rfl (by kernel_rfl) (by kernel_rfl) (by kernel_rfl) (fun _ _ _ h => h) (Or.inl ⟨by kernel_rfl, fun w _ => by kernel_rfl⟩) hS ?_
      refine wpAnyH_take (i := 8) (v := .string o0) rfl (by kernel_rfl) (by kernel_rfl) (by kernel_rfl) (fun _ _ _ h => h) (Or.inl ⟨by kernel_rfl, fun w hS => by go_simp⟩) hS ?_
      refine wpAnyH_take (i := 9) (v := .bool (k.toList == o0.toList)) rfl (by kernel_rfl) (by kernel_rfl) (by kernel_rfl) (fun _ _ _ h => h) (Or.inl ⟨by kernel_rfl, fun w _ => by kernel_rfl⟩) hS ?_
      rw [ha]
      refine wpAnyH_ready (rs := [5]) (by kernel_rfl) (by simp) ?_
      refine AllReadyH.cons rfl (fun K hK => ?_) AllReadyH.nil
      go_simp
      go_at_call 13
      refine (D5.out _ (Below.refl _ w3).drew _ _).mono ?_
      rintro e w4 ⟨rfl, b4⟩
      have B4 : Below w3.heap.size w3 w4 := below_then (Below.refl _ w3).drew b4
      refine hK.out _ _ ((B4.cell (p := ⟨p, 0, none⟩) hp3).trans P0.out) (fun hS => ?_)
      clear hK K
      refine wpAnyH_take (i := 10) (v := .bool false) rfl (by kernel_rfl) (by kernel_rfl) (by kernel_rfl) (fun _ _ _ h => h) (Or.inl ⟨by kernel_rfl, fun w _ => by kernel_rfl⟩) hS ?_
      refine wpAnyH_take (i := 11) (v := undef) rfl (by kernel_rfl) (by kernel_rfl) (by kernel_rfl) (fun _ _ _ h => h) (Or.inr ⟨by kernel_rfl, rfl⟩) hS ?_
      refine wpAnyH_take (i := 12) (v := undef) rfl (by kernel_rfl) (by kernel_rfl) (by kernel_rfl) (fun _ _ _ h => h) (Or.inr ⟨by kernel_rfl, rfl⟩) hS ?_
      refine wpAnyH_take (i := 13) (v := undef) rfl (by kernel_rfl) (by kernel_rfl) (by kernel_rfl) (fun _ _ _ h => h) (Or.inr ⟨by kernel_rfl, rfl⟩) hS ?_
      refine wpAnyH_take (i := 14) (v := undef) rfl (by kernel_rfl) (by kernel_rfl) (by kernel_rfl) (fun _ _ _ h => h) (Or.inr ⟨by kernel_rfl, rfl⟩) hS ?_
      refine wpAnyH_take (i := 15) (v := .bool false) rfl (by kernel_rfl) (by kernel_rfl) (by kernel_rfl) (fun _ _ _ h => h) (Or.inl ⟨by kernel_rfl, fun w _ => by kernel_rfl⟩) hS ?_
      refine wpAnyH_take (i := 16) (v := .bool true) rfl (by kernel_rfl) (by kernel_rfl) (by kernel_rfl) (fun _ _ _ h => h) (Or.inl ⟨by kernel_rfl, fun w _ => by kernel_rfl⟩) hS ?_
      refine wpAnyH_take (i := 17) (v := .bool true) rfl (by kernel_rfl) (by kernel_rfl) (by kernel_rfl) (fun _ _ _ h => h) (Or.inl ⟨by kernel_rfl, fun w _ => by kernel_rfl⟩) hS ?_
      refine wpAnyH_take (i := 18) (v := .bool true) rfl (by kernel_rfl) (by kernel_rfl) (by kernel_rfl) (fun _ _ _ h => h) (Or.inl ⟨by kernel_rfl, fun w _ => by kernel_rfl⟩) hS ?_
      refine wpAnyH_ready (rs := [19]) (by kernel_rfl) (by simp) ?_
      refine AllReadyH.cons rfl (fun K hK => ?_) AllReadyH.nil
      go_simp
      go_at_call 5
      refine (AW.out _).mono ?_
      rintro e w5 ⟨rfl, b5⟩
      have B5 : Below w3.heap.size w3 w5 := below_then B4 b5
      refine hK.out _ _ ((B5.cell (p := ⟨p, 0, none⟩) hp3).trans P0.out) (fun hS => ?_)
      clear hK K
      refine wpAnyH_take (i := 20) (v := .bool true) rfl (by kernel_rfl) (by kernel_rfl) (by kernel_rfl) (fun _ _ _ h => h) (Or.inl ⟨by kernel_rfl, fun w _ => by kernel_rfl⟩) hS ?_
      refine wpAnyH_take (i := 21) (v := .bool true) rfl (by kernel_rfl) (by kernel_rfl) (by kernel_rfl) (fun _ _ _ h => h) (Or.inl ⟨by kernel_rfl, fun w _ => by kernel_rfl⟩) hS ?_
      refine wpAnyH_done (by kernel_rfl) ?_ _
      all_goals go_wp2
      all_goals go_ret
      all_goals exact ⟨rfl, D0.out.trans (B5.mono D0.out.size)⟩
    · rw [Bool.true_and] at D5 q0
      go_wp2
      go_region_held3 (fun w' => w'.cell? ⟨p, 0, none⟩ = some (.string o0) ∧ w'.cell? ⟨p, 1, none⟩ = some (.string o1)) (first | go_keep | (constructor <;> assumption))
        (first
          | (go_at_call 13; refine (D5.out _ (Below.refl _ w3).drew _ _).mono ?_; rintro e w4 ⟨rfl, b4⟩; have B4 : Below w3.heap.size w3 w4 := below_then (Below.refl _ w3).drew b4; have g4 := (B4.cell (p := ⟨p, 0, none⟩) hp3).trans P0.out; have l4 := (B4.cell (p := ⟨p, 1, none⟩) hp3).trans P1.out)
          | (go_at_call 5; refine (AW.out _).mono ?_; rintro e w5 ⟨rfl, b5⟩; have B5 := below_then B4 b5; have g5 := (B5.cell (p := ⟨p, 0, none⟩) hp3).trans P0.out; have l5 := (B5.cell (p := ⟨p, 1, none⟩) hp3).trans P1.out)
          | fail)
      all_goals go_wp2
      all_goals go_ret
      all_goals exact ⟨rfl, D0.out.trans (B5.mono D0.out.size)⟩
end Go.Proofs.Ytofbhgghboffbaa
