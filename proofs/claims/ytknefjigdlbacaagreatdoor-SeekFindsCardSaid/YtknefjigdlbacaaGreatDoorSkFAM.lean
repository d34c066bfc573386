/-
  Several texts in one: The walks of Holds, Fresh and Frozen, and of the document's; parts compared; A shield as a block; the walks of its load, told, Act, Take, Result and New. By an AI agent.
-/
import Derived.Test.YtknefjigdlbacaaGreatDoorSkFAL
import Derived.Test.YtknefjigdlbacaaGreatDoorSkFAK
import Derived.Test.YtknefjigdlbacaaGreatDoorSkFAI
import Derived.Test.YtknefjigdlbacaaGreatDoorSkFAA
import Derived.Deep.RegionHeld3
set_option linter.unusedSimpArgs false
set_option linter.unusedVariables false
namespace Go.Proofs.YtknefjigdlbacaaGreatDoor
open Go.RowKit
set_option maxHeartbeats 1000000 in
theorem holds_any (x : Int) (w : World) (h0 : 0 ≤ x) (h1 : x ≤ 18446744073709551615) : Calls Tryz.prog 91 #[.int .u64 x] w (Gives (.bool (Tg.hd x)) w) := by
  have K := Lib.hid fun w => of_any x w h0 h1
  have e : Tg.hd x = ((x / 8 != 0) && (decide (0 < x % 8) && decide (x % 8 < 5))) := by
    unfold Tg.hd
    have a : decide (8 ≤ x) = (x / 8 != 0) := by
      by_cases h : 8 ≤ x
      · have : x / 8 ≠ 0 := by omega
        simp [h, this]
      · have : x / 8 = 0 := by omega
        simp [h, this]
    have b : (decide (1 ≤ x % 8)) = decide (0 < x % 8) := by congr 1
    have c : (decide (x % 8 ≤ 4)) = decide (x % 8 < 5) := by congr 1; simp; omega
    rw [a, b, c]
  rw [e]
  clear e
  generalize x / 8 = b at K ⊢
  generalize x % 8 = m at K ⊢
  rcases c1 : (b != 0) with _ | _
  · go_enter Tryz.func91, Tryz.ntmps91
    go_wp2_with fail
    with_reducible refine (K.out _).mono ?_
    rintro e w1 ⟨rfl, hb⟩
    go_wp2
    go_ret
    exact ⟨rfl, hb.alloc hb.size _⟩
  · rcases c2 : (decide (0 < m)) with _ | _
    all_goals
      go_enter Tryz.func91, Tryz.ntmps91
      go_wp2_with fail
      with_reducible refine (K.out _).mono ?_
      rintro e w1 ⟨rfl, hb⟩
      go_wp2
      go_ret
      exact ⟨by simp, hb.alloc hb.size _⟩
set_option maxHeartbeats 1000000 in
theorem rholds_any (x : Int) (w : World) (h0 : 0 ≤ x) (h1 : x ≤ 18446744073709551615) : Calls Tryz.prog 107 #[.int .u64 x] w (Same (.bool (Tg.hd x)) w) := by
  unfold Tg.hd
  rcases c1 : (decide (8 ≤ x)) with _ | _ <;> rcases c2 : (decide (1 ≤ x % 8)) with _ | _
  all_goals
    go_enter Tryz.func107, Tryz.ntmps107
    go_wp2
    go_ret
    exact ⟨by simp, rfl⟩
/-- The mark of a word that holds, in the spelling of Fresh. -/
theorem fr_eq (x : Int) : Tg.fr x = (Tg.hd x && ((x % 8 == 1) || (x % 8 == 2))) := by
  unfold Tg.fr
  rcases h : Tg.hd x with _ | _
  · rfl
  · unfold Tg.hd at h
    simp at h
    rw [Bool.true_and, Bool.true_and, Bool.eq_iff_iff]
    simp
    omega
theorem fz_eq (x : Int) : (Tg.hd x && decide (2 < x % 8)) = (Tg.hd x && ((x % 8 == 3) || (x % 8 == 4))) := by
  rcases h : Tg.hd x with _ | _
  · rfl
  · unfold Tg.hd at h
    simp at h
    rw [Bool.true_and, Bool.true_and, Bool.eq_iff_iff]
    simp
    omega
theorem five_eq (x : Int) (h0 : 0 ≤ x) : (x == 5) = (x / 8 == 0 && x % 8 == 5) := by
  rw [Bool.eq_iff_iff]
  simp
  omega
set_option maxHeartbeats 1000000 in
theorem fresh_any (x : Int) (w : World) (h0 : 0 ≤ x) (h1 : x ≤ 18446744073709551615) : Calls Tryz.prog 89 #[.int .u64 x] w (Gives (.bool (Tg.fr x)) w) := by
  have K := Lib.hid fun w => mark_any x w h0 h1
  have H := Lib.hid fun w => holds_any x w h0 h1
  rw [fr_eq]
  generalize Tg.hd x = b at H ⊢
  generalize x % 8 = m at K ⊢
  cases b <;> rcases c1 : (m == 1) with _ | _
  all_goals
    go_enter Tryz.func89, Tryz.ntmps89
    go_wp2_with fail
    with_reducible refine (K.out _).mono ?_
    rintro e w1 ⟨rfl, hb⟩
    go_wp2_with fail
    with_reducible refine (H.out _).mono ?_
    rintro e w2 ⟨rfl, hb2⟩
    go_wp2
    go_ret
    exact ⟨by simp, below_then hb hb2⟩
set_option maxHeartbeats 1000000 in
theorem rfresh_any (x : Int) (w : World) (h0 : 0 ≤ x) (h1 : x ≤ 18446744073709551615) : Calls Tryz.prog 111 #[.int .u64 x] w (Same (.bool (Tg.fr x)) w) := by
  have H := Lib.hid fun w => rholds_any x w h0 h1
  unfold Tg.fr
  generalize Tg.hd x = b at H ⊢
  cases b
  all_goals
    go_enter Tryz.func111, Tryz.ntmps111
    go_wp2_with fail
    with_reducible refine (H.out _).mono ?_
    rintro e w2 ⟨rfl, rfl⟩
    go_wp2
    go_ret
    exact ⟨by simp, rfl⟩
/-- A pair's box, in a world behind it. -/
theorem box_cells {w w' : World} {b m : Int} (h : Below (w.alloc (.cells #[.int .u64 b, .int .i64 m] 168)).heap.size (w.alloc (.cells #[.int .u64 b, .int .i64 m] 168)) w') : w'.cell? ⟨w.heap.size, 0, none⟩ = some (.int .u64 b) ∧ w'.cell? ⟨w.heap.size, 1, none⟩ = some (.int .i64 m) := by
  have hs : w.heap.size < (w.alloc (.cells #[.int .u64 b, .int .i64 m] 168)).heap.size := by simp
  refine ⟨?_, ?_⟩ <;> rw [h.cell hs, World.cell?_alloc_new] <;> rfl
end Go.Proofs.YtknefjigdlbacaaGreatDoor
set_option linter.unusedSimpArgs false
set_option linter.unusedVariables false
namespace Go.Proofs.YtknefjigdlbacaaGreatDoor
open Go.RowKit Go.Maps
open Ac (A)
/-- A shield as a block: its part, the desk's block, its cell there, the word that it knows, the slot's block and cell. -/
def Sb (w : World) (q : Nat) (s : Sh.S) (d : Nat) (c : Int) (b : Nat) (i : Int) : Prop := w.heap[q]? = some (.cells #[.int .i64 (s.p : Int), .int .u64 (d : Int), .int .i64 c, .int .u64 (s.r : Int), .int .u64 (b : Int), .int .i64 i] 124 (0, 0))
section
variable {w w' : World} {q d b : Nat} {c i : Int} {s : Sh.S}
theorem Sb.lt (h : Sb w q s d c b i) : q < w.heap.size := (Array.getElem?_eq_some_iff.1 h).1
theorem Sb.keep (h : Sb w q s d c b i) (e : w'.heap[q]? = w.heap[q]?) : Sb w' q s d c b i := e.trans h
theorem Sb.below (h : Sb w q s d c b i) (hb : Below w.heap.size w w') : Sb w' q s d c b i := h.keep (hb.block q h.lt)
theorem Sb.fz (h : Sb w q s d c b i) (j : Nat) : w.frozen? ⟨q, j, none⟩ = false := by simp [World.frozen?, show w.heap[q]? = _ from h]
theorem Sb.c0 (h : Sb w q s d c b i) : w.cell? ⟨q, 0, none⟩ = some (.int .i64 (s.p : Int)) := by simp [World.cell?, show w.heap[q]? = _ from h]
theorem Sb.c1 (h : Sb w q s d c b i) : w.cell? ⟨q, 1, none⟩ = some (.int .u64 (d : Int)) := by simp [World.cell?, show w.heap[q]? = _ from h]
theorem Sb.c2 (h : Sb w q s d c b i) : w.cell? ⟨q, 2, none⟩ = some (.int .i64 c) := by simp [World.cell?, show w.heap[q]? = _ from h]
theorem Sb.c3 (h : Sb w q s d c b i) : w.cell? ⟨q, 3, none⟩ = some (.int .u64 (s.r : Int)) := by simp [World.cell?, show w.heap[q]? = _ from h]
theorem Sb.c4 (h : Sb w q s d c b i) : w.cell? ⟨q, 4, none⟩ = some (.int .u64 (b : Int)) := by simp [World.cell?, show w.heap[q]? = _ from h]
theorem Sb.c5 (h : Sb w q s d c b i) : w.cell? ⟨q, 5, none⟩ = some (.int .i64 i) := by simp [World.cell?, show w.heap[q]? = _ from h]
/-- Another part. -/
theorem Sb.part (h : Sb w q s d c b i) (p : Nat) : Sb (w.setCell ⟨q, 0, none⟩ (.int .i64 (p : Int))) q ⟨p, s.r⟩ d c b i := by
  unfold Sb at h ⊢
  rw [heap_setc h _ _]
  simp
/-- Another word. -/
theorem Sb.word (h : Sb w q s d c b i) (r : Nat) : Sb (w.setCell ⟨q, 3, none⟩ (.int .u64 (r : Int))) q ⟨s.p, r⟩ d c b i := by
  unfold Sb at h ⊢
  rw [heap_setc h _ _]
  simp
end
/-! ### words, as Nat -/
theorem blockn (n : Nat) (w : World) (h : n < 18446744073709551616) : Calls Tryz.prog 84 #[.int .u64 (n : Int)] w (Gives (.int .u64 ((n / 8 : Nat) : Int)) w) := by
  have := block_any (n : Int) w (by omega) (by omega)
  rwa [show (n : Int) / 8 = ((n / 8 : Nat) : Int) by omega] at this
theorem rblockn (n : Nat) (w : World) (h : n < 18446744073709551616) : Calls Tryz.prog 110 #[.int .u64 (n : Int)] w (Same (.int .u64 ((n / 8 : Nat) : Int)) w) := by
  have := rblock_any (n : Int) w (by omega) (by omega)
  rwa [show (n : Int) / 8 = ((n / 8 : Nat) : Int) by omega] at this
theorem freshn (n : Nat) (w : World) (h : n < 18446744073709551616) : Calls Tryz.prog 89 #[.int .u64 (n : Int)] w (Gives (.bool (Sh.fr n)) w) := fresh_any (n : Int) w (by omega) (by omega)
theorem rfreshn (n : Nat) (w : World) (h : n < 18446744073709551616) : Calls Tryz.prog 111 #[.int .u64 (n : Int)] w (Same (.bool (Sh.fr n)) w) := rfresh_any (n : Int) w (by omega) (by omega)
/-! ### load -/
set_option maxHeartbeats 1000000 in
theorem sload_slot (b i : Int) (w : World) : Calls Tryz.prog 85 #[.agg #[.int .u64 b, .int .i64 i]] w (Gives (.agg #[.int .i64 1, .int .u64 b, .int .i64 i, .int .u64 0, .int .u64 0]) w) := by
  have HB := Lib.hid (fun o o2 => (show Below w.heap.size w ((w.alloc o).alloc o2) from ((Below.refl _ w).alloc (Nat.le_refl _) o).alloc (by rw [World.size_alloc]; omega) o2))
  go_enter Tryz.func85, Tryz.ntmps85
  go_wp2
  exact bodyPost_ret (v := .agg #[.int .i64 1, .int .u64 b, .int .i64 i, .int .u64 0, .int .u64 0]) (by simp [results, Tryz.results85, go_sem]) rfl ⟨rfl, HB.out _ _⟩
/-! ### told -/
set_option maxHeartbeats 1000000 in
theorem told_any {w : World} {q d b : Nat} {c i : Int} {s : Sh.S} (h : Sb w q s d c b i) (v : Nat) (x : Bool) : Calls Tryz.prog 88 #[.pointer (some ⟨q, 0, none⟩), .int .u64 (v : Int), .bool x] w fun e w' => e = .returned (.tuple #[]) ∧ Sb w' q (Sh.told v x) d c b i ∧ Chg q w w' := by
  have c0 := h.c0
  have c3 := h.c3
  have f0 := h.fz 0
  have f3 := h.fz 3
  have HH := Lib.hid h; clear h
  cases x
  · go_enter Tryz.func88, Tryz.ntmps88
    go_wp2
    refine bodyPost_end (results_none rfl _ _ _) rfl ?_
    exact ⟨rfl, (HH.out.word v).part 3, ((Chg.refl q w).set 3 _ HH.out.lt).set 0 _ (HH.out.word v).lt⟩
  · go_enter Tryz.func88, Tryz.ntmps88
    go_wp2
    refine bodyPost_end (results_none rfl _ _ _) rfl ?_
    exact ⟨rfl, ((HH.out.word v).part 3).part 1, (((Chg.refl q w).set 3 _ HH.out.lt).set 0 _ (HH.out.word v).lt).set 0 _ ((HH.out.word v).part 3).lt⟩
/-! ### Take -/
theorem stake_nil (v : Int) (w : World) : Calls Tryz.prog 38 #[.pointer none, .int .u64 v] w (Same (.tuple #[]) w) := by
  go_enter Tryz.func38, Tryz.ntmps38
  go_wp2
  refine bodyPost_ret (results_none rfl _ _ _) rfl ?_
  exact ⟨rfl, rfl⟩
set_option maxRecDepth 100000 in
set_option maxHeartbeats 4000000 in
theorem stake_any {w : World} {q d b : Nat} {c i : Int} {s : Sh.S} (h : Sb w q s d c b i) (hp : s.p ≤ 3) (hr : s.r < 18446744073709551616) (v : Nat) (hv : v < 18446744073709551616) : Calls Tryz.prog 38 #[.pointer (some ⟨q, 0, none⟩), .int .u64 (v : Int)] w fun e w' => e = .returned (.tuple #[]) ∧ Sb w' q (Sh.step s v) d c b i ∧ Chg q w w' := by
  have c0 := h.c0
  have c3 := h.c3
  have f0 := h.fz 0
  have f3 := h.fz 3
  have HH := Lib.hid h; clear h
  have HF := Lib.hid (fun W => freshn v W hv)
  obtain ⟨p, r⟩ := s
  dsimp only at c0 c3 hp hr
  obtain rfl | rfl | rfl | rfl : p = 0 ∨ p = 1 ∨ p = 2 ∨ p = 3 := by omega
  · rw [show ((0 : Nat) : Int) = 0 from rfl] at c0
    go_enter Tryz.func38, Tryz.ntmps38
    go_wp2
    refine bodyPost_end (results_none rfl _ _ _) rfl ?_
    exact ⟨rfl, HH.out, Tn.refl _ _⟩
  · rw [show ((1 : Nat) : Int) = 1 from rfl] at c0
    go_enter Tryz.func38, Tryz.ntmps38
    go_wp2
    refine bodyPost_end (results_none rfl _ _ _) rfl ?_
    exact ⟨rfl, HH.out.part 2, (Chg.refl q w).set 0 _ HH.out.lt⟩
  · rw [show ((2 : Nat) : Int) = 2 from rfl] at c0
    rw [Sh.step2]
    have HK := Lib.hid (fun W => blockn v W hv)
    have HL := Lib.hid (fun W => blockn r W hr)
    have HT : Hid (∀ (W : World) (x : Bool), Below w.heap.size w W → Calls Tryz.prog 88 #[.pointer (some ⟨q, 0, none⟩), .int .u64 (v : Int), .bool x] W fun e w' => e = .returned (.tuple #[]) ∧ Sb w' q (Sh.told v x) d c b i ∧ Chg q w w') := Lib.hid (fun W x hb => (told_any (HH.out.below hb) v x).mono (fun e w' h => ⟨h.1, h.2.1, (Tn.of_below hb).trans h.2.2⟩))
    have B0 := Lib.hid (show Below w.heap.size w w.drew from (Below.refl _ w).drew)
    cases hf : Sh.fr v with
    | false =>
      rw [hf] at HF
      rw [Bool.false_and]
      clear hf hr hv HK HL
      go_enter Tryz.func38, Tryz.ntmps38
      go_wp2
      refine wp_region_any (by kernel_rfl) ?_
      change wpAny _ _ _ _ _ _ _ (World.drew _)
      refine wpAny_take (i := 0) (v := .pointer (some ⟨q, 0, none⟩)) rfl (by kernel_rfl) (by kernel_rfl) (by kernel_rfl) (fun _ _ _ h => h) (Or.inl ⟨by kernel_rfl, fun w => by kernel_rfl⟩) ?_
      refine wpAny_take (i := 1) (v := .int .u64 (v : Int)) rfl (by kernel_rfl) (by kernel_rfl) (by kernel_rfl) (fun _ _ _ h => h) (Or.inl ⟨by kernel_rfl, fun w => by kernel_rfl⟩) ?_
      refine wpAny_take (i := 2) (v := .int .u64 (v : Int)) rfl (by kernel_rfl) (by kernel_rfl) (by kernel_rfl) (fun _ _ _ h => h) (Or.inl ⟨by kernel_rfl, fun w => by kernel_rfl⟩) ?_
      refine wpAny_ready (rs := [3]) (by kernel_rfl) (by simp) ?_
      refine AllReady.cons rfl (fun K hK => ?_) AllReady.nil
      go_simp
      go_at_call 89
      refine (HF.out _).mono ?_
      rintro e w1 ⟨rfl, hb1⟩
      have B1 := Lib.hid (B0.out.trans (hb1.mono B0.out.size))
      have x1 := (HH.out.below B1.out).c3
      clear hb1
      refine hK _ _ ?_
      clear hK K
      refine wpAny_take (i := 4) (v := .bool false) rfl (by kernel_rfl) (by kernel_rfl) (by kernel_rfl) (fun _ _ _ h => h) (Or.inl ⟨by kernel_rfl, fun w => by kernel_rfl⟩) ?_
      refine wpAny_take (i := 5) (v := undef) rfl (by kernel_rfl) (by kernel_rfl) (by kernel_rfl) (fun _ _ _ h => h) (Or.inr ⟨by kernel_rfl, rfl⟩) ?_
      refine wpAny_take (i := 6) (v := undef) rfl (by kernel_rfl) (by kernel_rfl) (by kernel_rfl) (fun _ _ _ h => h) (Or.inr ⟨by kernel_rfl, rfl⟩) ?_
      refine wpAny_take (i := 7) (v := undef) rfl (by kernel_rfl) (by kernel_rfl) (by kernel_rfl) (fun _ _ _ h => h) (Or.inr ⟨by kernel_rfl, rfl⟩) ?_
      refine wpAny_take (i := 8) (v := undef) rfl (by kernel_rfl) (by kernel_rfl) (by kernel_rfl) (fun _ _ _ h => h) (Or.inr ⟨by kernel_rfl, rfl⟩) ?_
      refine wpAny_take (i := 9) (v := undef) rfl (by kernel_rfl) (by kernel_rfl) (by kernel_rfl) (fun _ _ _ h => h) (Or.inr ⟨by kernel_rfl, rfl⟩) ?_
      refine wpAny_take (i := 10) (v := undef) rfl (by kernel_rfl) (by kernel_rfl) (by kernel_rfl) (fun _ _ _ h => h) (Or.inr ⟨by kernel_rfl, rfl⟩) ?_
      refine wpAny_take (i := 11) (v := undef) rfl (by kernel_rfl) (by kernel_rfl) (by kernel_rfl) (fun _ _ _ h => h) (Or.inr ⟨by kernel_rfl, rfl⟩) ?_
      refine wpAny_take (i := 12) (v := undef) rfl (by kernel_rfl) (by kernel_rfl) (by kernel_rfl) (fun _ _ _ h => h) (Or.inr ⟨by kernel_rfl, rfl⟩) ?_
      refine wpAny_take (i := 13) (v := .bool false) rfl (by kernel_rfl) (by kernel_rfl) (by kernel_rfl) (fun _ _ _ h => h) (Or.inl ⟨by kernel_rfl, fun w => by kernel_rfl⟩) ?_
      refine wpAny_ready (rs := [14]) (by kernel_rfl) (by simp) ?_
      refine AllReady.cons rfl (fun K hK => ?_) AllReady.nil
      go_simp
      go_at_call 88
      refine (HT.out _ false B1.out).mono ?_
      rintro e w9 ⟨rfl, h9, k9⟩
      refine hK _ _ ?_
      clear hK K
      refine wpAny_done (by kernel_rfl) ?_ _
      all_goals go_wp2
      all_goals refine bodyPost_end (results_none rfl _ _ _) rfl ?_
      all_goals exact ⟨rfl, h9, k9⟩
    | true =>
      rw [hf] at HF
      rw [Bool.true_and]
      clear hf hr hv
      unfold Sh.oth
      have hx : ∀ w : World, (binOp .neq 22 (.int .u64 ((v / 8 : Nat) : Int)) (.int .u64 ((r / 8 : Nat) : Int))).run Tryz.prog w = .ok (.bool (((v / 8 : Nat) : Int) != ((r / 8 : Nat) : Int))) w := fun w => by go_simp
      generalize ((v / 8 : Nat) : Int) = y at *
      generalize ((r / 8 : Nat) : Int) = z at *
      go_enter Tryz.func38, Tryz.ntmps38
      go_wp2
      refine wp_region_any (by kernel_rfl) ?_
      change wpAny _ _ _ _ _ _ _ (World.drew _)
      refine wpAny_take (i := 0) (v := .pointer (some ⟨q, 0, none⟩)) rfl (by kernel_rfl) (by kernel_rfl) (by kernel_rfl) (fun _ _ _ h => h) (Or.inl ⟨by kernel_rfl, fun w => by kernel_rfl⟩) ?_
      refine wpAny_take (i := 1) (v := .int .u64 (v : Int)) rfl (by kernel_rfl) (by kernel_rfl) (by kernel_rfl) (fun _ _ _ h => h) (Or.inl ⟨by kernel_rfl, fun w => by kernel_rfl⟩) ?_
      refine wpAny_take (i := 2) (v := .int .u64 (v : Int)) rfl (by kernel_rfl) (by kernel_rfl) (by kernel_rfl) (fun _ _ _ h => h) (Or.inl ⟨by kernel_rfl, fun w => by kernel_rfl⟩) ?_
      refine wpAny_ready (rs := [3]) (by kernel_rfl) (by simp) ?_
      refine AllReady.cons rfl (fun K hK => ?_) AllReady.nil
      go_simp
      go_at_call 89
      refine (HF.out _).mono ?_
      rintro e w1 ⟨rfl, hb1⟩
      have B1 := Lib.hid (B0.out.trans (hb1.mono B0.out.size))
      have x1 := (HH.out.below B1.out).c3
      clear hb1
      refine hK _ _ ?_
      clear hK K
      refine wpAny_take (i := 4) (v := .bool true) rfl (by kernel_rfl) (by kernel_rfl) (by kernel_rfl) (fun _ _ _ h => h) (Or.inl ⟨by kernel_rfl, fun w => by kernel_rfl⟩) ?_
      refine wpAny_take (i := 5) (v := .int .u64 (v : Int)) rfl (by kernel_rfl) (by kernel_rfl) (by kernel_rfl) (fun _ _ _ h => h) (Or.inl ⟨by kernel_rfl, fun w => by kernel_rfl⟩) ?_
      refine wpAny_take (i := 7) (v := .pointer (some ⟨q, 0, none⟩)) rfl (by kernel_rfl) (by kernel_rfl) (by kernel_rfl) (fun _ _ _ h => h) (Or.inl ⟨by kernel_rfl, fun w => by kernel_rfl⟩) ?_
      refine wpAny_take (i := 8) (v := .pointer (some ⟨q, 0, none⟩)) rfl (by kernel_rfl) (by kernel_rfl) (by kernel_rfl) (fun _ _ _ h => h) (Or.inl ⟨by kernel_rfl, fun w => by kernel_rfl⟩) ?_
      refine wpAny_take (i := 9) (v := .pointer (some ⟨q, 3, none⟩)) rfl (by kernel_rfl) (by kernel_rfl) (by kernel_rfl) (fun _ _ _ h => h) (Or.inl ⟨by kernel_rfl, fun w => by kernel_rfl⟩) ?_
      refine wpAny_ready (rs := [6, 10]) (by kernel_rfl) (by simp) ?_
      refine AllReady.cons rfl (fun K hK => ?_) (AllReady.cons rfl (fun K hK => ?_) AllReady.nil)
      · go_simp
        go_at_call 84
        refine (HK.out _).mono ?_
        rintro e w2 ⟨rfl, hb2⟩
        have B2 := Lib.hid (B1.out.trans (hb2.mono B1.out.size))
        have x2 := (HH.out.below B2.out).c3
        clear hb2
        refine hK _ _ ?_
        clear hK K
        refine wpAny_ready (rs := [10]) (by kernel_rfl) (by simp) ?_
        refine AllReady.cons rfl (fun K hK => ?_) AllReady.nil
        go_simp
        refine hK _ _ ?_
        clear hK K
        refine wpAny_ready (rs := [11]) (by kernel_rfl) (by simp) ?_
        refine AllReady.cons rfl (fun K hK => ?_) AllReady.nil
        go_simp
        go_at_call 84
        refine (HL.out _).mono ?_
        rintro e w3 ⟨rfl, hb3⟩
        have B3 := Lib.hid (B2.out.trans (hb3.mono B2.out.size))
        have x3 := (HH.out.below B3.out).c3
        clear hb3
        refine hK _ _ ?_
        clear hK K
        refine wpAny_take (i := 12) (v := .bool (y != z)) rfl (by kernel_rfl) (by kernel_rfl) (by kernel_rfl) (fun _ _ _ h => h) (Or.inl ⟨by kernel_rfl, fun w => by first | kernel_rfl | go_simp⟩) ?_
        refine wpAny_take (i := 13) (v := .bool (y != z)) rfl (by kernel_rfl) (by kernel_rfl) (by kernel_rfl) (fun _ _ _ h => h) (Or.inl ⟨by kernel_rfl, fun w => by first | kernel_rfl | go_simp⟩) ?_
        refine wpAny_ready (rs := [14]) (by kernel_rfl) (by simp) ?_
        refine AllReady.cons rfl (fun K hK => ?_) AllReady.nil
        go_simp
        go_at_call 88
        refine (HT.out _ (y != z) B3.out).mono ?_
        rintro e w9 ⟨rfl, h9, k9⟩
        refine hK _ _ ?_
        clear hK K
        refine wpAny_done (by kernel_rfl) ?_ _
        all_goals go_wp2
        all_goals refine bodyPost_end (results_none rfl _ _ _) rfl ?_
        all_goals exact ⟨rfl, h9, k9⟩
      · go_simp
        refine hK _ _ ?_
        clear hK K
        refine wpAny_ready (rs := [6]) (by kernel_rfl) (by simp) ?_
        refine AllReady.cons rfl (fun K hK => ?_) AllReady.nil
        go_simp
        go_at_call 84
        refine (HK.out _).mono ?_
        rintro e w2 ⟨rfl, hb2⟩
        have B2 := Lib.hid (B1.out.trans (hb2.mono B1.out.size))
        have x2 := (HH.out.below B2.out).c3
        clear hb2
        refine hK _ _ ?_
        clear hK K
        refine wpAny_ready (rs := [11]) (by kernel_rfl) (by simp) ?_
        refine AllReady.cons rfl (fun K hK => ?_) AllReady.nil
        go_simp
        go_at_call 84
        refine (HL.out _).mono ?_
        rintro e w3 ⟨rfl, hb3⟩
        have B3 := Lib.hid (B2.out.trans (hb3.mono B2.out.size))
        have x3 := (HH.out.below B3.out).c3
        clear hb3
        refine hK _ _ ?_
        clear hK K
        refine wpAny_take (i := 12) (v := .bool (y != z)) rfl (by kernel_rfl) (by kernel_rfl) (by kernel_rfl) (fun _ _ _ h => h) (Or.inl ⟨by kernel_rfl, fun w => by first | kernel_rfl | go_simp⟩) ?_
        refine wpAny_take (i := 13) (v := .bool (y != z)) rfl (by kernel_rfl) (by kernel_rfl) (by kernel_rfl) (fun _ _ _ h => h) (Or.inl ⟨by kernel_rfl, fun w => by first | kernel_rfl | go_simp⟩) ?_
        refine wpAny_ready (rs := [14]) (by kernel_rfl) (by simp) ?_
        refine AllReady.cons rfl (fun K hK => ?_) AllReady.nil
        go_simp
        go_at_call 88
        refine (HT.out _ (y != z) B3.out).mono ?_
        rintro e w9 ⟨rfl, h9, k9⟩
        refine hK _ _ ?_
        clear hK K
        refine wpAny_done (by kernel_rfl) ?_ _
        all_goals go_wp2
        all_goals refine bodyPost_end (results_none rfl _ _ _) rfl ?_
        all_goals exact ⟨rfl, h9, k9⟩
  · rw [show ((3 : Nat) : Int) = 3 from rfl] at c0
    go_enter Tryz.func38, Tryz.ntmps38
    go_wp2
    refine bodyPost_end (results_none rfl _ _ _) rfl ?_
    exact ⟨rfl, HH.out, Tn.refl _ _⟩
/-! ### Result -/
theorem sres_nil (w : World) : Calls Tryz.prog 90 #[.pointer none] w (Same (.tuple #[.int .u64 0, .bool false]) w) := by
  go_enter Tryz.func90, Tryz.ntmps90
  go_wp2
  go_ret2
  exact ⟨rfl, rfl⟩
/-- What Result tells. -/
def sres (s : Sh.S) : Value := .tuple #[.int .u64 ((if s.p = 3 then s.r else 0 : Nat) : Int), .bool (decide (s.p = 3))]
set_option maxRecDepth 100000 in
set_option maxHeartbeats 4000000 in
theorem sres_any {w : World} {q d b : Nat} {c i : Int} {s : Sh.S} (h : Sb w q s d c b i) : Calls Tryz.prog 90 #[.pointer (some ⟨q, 0, none⟩)] w (Same (sres s) w) := by
  have c0 := h.c0
  have c3 := h.c3
  clear h
  unfold sres
  obtain ⟨p, r⟩ := s
  dsimp only at c0 c3 ⊢
  by_cases h4 : p = 3
  · subst h4
    rw [if_pos rfl, decide_eq_true rfl]
    rw [show ((3 : Nat) : Int) = 3 from rfl] at c0
    go_enter Tryz.func90, Tryz.ntmps90
    go_wp2
    go_ret2
    exact ⟨rfl, rfl⟩
  · rw [if_neg h4, decide_eq_false h4]
    have e1 : ((p : Int) != 3) = true := by simp; omega
    have e2 : ((p : Int) == 3) = false := by simp; omega
    clear h4
    go_enter Tryz.func90, Tryz.ntmps90
    go_wp2
    go_ret2
    exact ⟨rfl, rfl⟩
end Go.Proofs.YtknefjigdlbacaaGreatDoor
