/-
  Several texts in one: A shield as a block; the walks of its load, told, Act, Take, Result and New; The walks of Note, the program's and the document's. By an AI agent.
-/
import Derived.Test.YtknefjigdlbacaaGreatDoorSkGAJ
import Derived.Test.YtknefjigdlbacaaGreatDoorSkGAH
import Derived.Test.YtknefjigdlbacaaGreatDoorSkGAK
import Derived.Test.YtknefjigdlbacaaGreatDoorSkGAA
import Derived.Deep.RegionHeld3
set_option linter.unusedSimpArgs false
set_option linter.unusedVariables false
namespace Go.Proofs.YtknefjigdlbacaaGreatDoor
open Go.RowKit Go.Maps
open Ac (A)
/-- A shield as a block: its part, the desk's block, its cell there, the word that it knows, the slot's block and cell. -/
def Sb (w : World) (q : Nat) (s : Sh.S) (d : Nat) (c : Int) (b : Nat) (i : Int) : Prop := w.heap[q]? = some (.cells #[.int .i64 (s.p : Int), .int .u64 (d : Int), .int .i64 c, .int .u64 (s.r : Int), .int .u64 (b : Int), .int .i64 i] 124 (0, 0))
section
variable {w w' : World} {q d b : Nat} {c i : Int} {s : Sh.S}
theorem Sb.lt (h : Sb w q s d c b i) : q < w.heap.size := (Array.getElem?_eq_some_iff.1 h).1
theorem Sb.keep (h : Sb w q s d c b i) (e : w'.heap[q]? = w.heap[q]?) : Sb w' q s d c b i := e.trans h
theorem Sb.below (h : Sb w q s d c b i) (hb : Below w.heap.size w w') : Sb w' q s d c b i := h.keep (hb.block q h.lt)
theorem Sb.fz (h : Sb w q s d c b i) (j : Nat) : w.frozen? ⟨q, j, none⟩ = false := by simp [World.frozen?, show w.heap[q]? = _ from h]
theorem Sb.c0 (h : Sb w q s d c b i) : w.cell? ⟨q, 0, none⟩ = some (.int .i64 (s.p : Int)) := by simp [World.cell?, show w.heap[q]? = _ from h]
theorem Sb.c1 (h : Sb w q s d c b i) : w.cell? ⟨q, 1, none⟩ = some (.int .u64 (d : Int)) := by simp [World.cell?, show w.heap[q]? = _ from h]
theorem Sb.c2 (h : Sb w q s d c b i) : w.cell? ⟨q, 2, none⟩ = some (.int .i64 c) := by simp [World.cell?, show w.heap[q]? = _ from h]
theorem Sb.c3 (h : Sb w q s d c b i) : w.cell? ⟨q, 3, none⟩ = some (.int .u64 (s.r : Int)) := by simp [World.cell?, show w.heap[q]? = _ from h]
theorem Sb.c4 (h : Sb w q s d c b i) : w.cell? ⟨q, 4, none⟩ = some (.int .u64 (b : Int)) := by simp [World.cell?, show w.heap[q]? = _ from h]
theorem Sb.c5 (h : Sb w q s d c b i) : w.cell? ⟨q, 5, none⟩ = some (.int .i64 i) := by simp [World.cell?, show w.heap[q]? = _ from h]
/-- Another part. -/
theorem Sb.part (h : Sb w q s d c b i) (p : Nat) : Sb (w.setCell ⟨q, 0, none⟩ (.int .i64 (p : Int))) q ⟨p, s.r⟩ d c b i := by
  unfold Sb at h ⊢
  rw [heap_setc h _ _]
  simp
/-- Another word. -/
theorem Sb.word (h : Sb w q s d c b i) (r : Nat) : Sb (w.setCell ⟨q, 3, none⟩ (.int .u64 (r : Int))) q ⟨s.p, r⟩ d c b i := by
  unfold Sb at h ⊢
  rw [heap_setc h _ _]
  simp
end
/-! ### words, as Nat -/
theorem blockn (n : Nat) (w : World) (h : n < 18446744073709551616) : Calls Tryz.prog 84 #[.int .u64 (n : Int)] w (Gives (.int .u64 ((n / 8 : Nat) : Int)) w) := by
  have := block_any (n : Int) w (by omega) (by omega)
  rwa [show (n : Int) / 8 = ((n / 8 : Nat) : Int) by omega] at this
theorem rblockn (n : Nat) (w : World) (h : n < 18446744073709551616) : Calls Tryz.prog 110 #[.int .u64 (n : Int)] w (Same (.int .u64 ((n / 8 : Nat) : Int)) w) := by
  have := rblock_any (n : Int) w (by omega) (by omega)
  rwa [show (n : Int) / 8 = ((n / 8 : Nat) : Int) by omega] at this
theorem freshn (n : Nat) (w : World) (h : n < 18446744073709551616) : Calls Tryz.prog 89 #[.int .u64 (n : Int)] w (Gives (.bool (Sh.fr n)) w) := fresh_any (n : Int) w (by omega) (by omega)
theorem rfreshn (n : Nat) (w : World) (h : n < 18446744073709551616) : Calls Tryz.prog 111 #[.int .u64 (n : Int)] w (Same (.bool (Sh.fr n)) w) := rfresh_any (n : Int) w (by omega) (by omega)
/-! ### load -/
set_option maxHeartbeats 1000000 in
theorem sload_slot (b i : Int) (w : World) : Calls Tryz.prog 85 #[.agg #[.int .u64 b, .int .i64 i]] w (Gives (.agg #[.int .i64 1, .int .u64 b, .int .i64 i, .int .u64 0, .int .u64 0]) w) := by
  have HB := Lib.hid (fun o o2 => (show Below w.heap.size w ((w.alloc o).alloc o2) from ((Below.refl _ w).alloc (Nat.le_refl _) o).alloc (by rw [World.size_alloc]; omega) o2))
  go_enter Tryz.func85, Tryz.ntmps85
  go_wp2
  exact bodyPost_ret (v := .agg #[.int .i64 1, .int .u64 b, .int .i64 i, .int .u64 0, .int .u64 0]) (by simp [results, Tryz.results85, go_sem]) rfl ⟨rfl, HB.out _ _⟩
/-! ### told -/
set_option maxHeartbeats 1000000 in
theorem told_any {w : World} {q d b : Nat} {c i : Int} {s : Sh.S} (h : Sb w q s d c b i) (v : Nat) (x : Bool) : Calls Tryz.prog 88 #[.pointer (some ⟨q, 0, none⟩), .int .u64 (v : Int), .bool x] w fun e w' => e = .returned (.tuple #[]) ∧ Sb w' q (Sh.told v x) d c b i ∧ Chg q w w' := by
  have c0 := h.c0
  have c3 := h.c3
  have f0 := h.fz 0
  have f3 := h.fz 3
  have HH := Lib.hid h; clear h
  cases x
  · go_enter Tryz.func88, Tryz.ntmps88
    go_wp2
    refine bodyPost_end (results_none rfl _ _ _) rfl ?_
    exact ⟨rfl, (HH.out.word v).part 3, ((Chg.refl q w).set 3 _ HH.out.lt).set 0 _ (HH.out.word v).lt⟩
  · go_enter Tryz.func88, Tryz.ntmps88
    go_wp2
    refine bodyPost_end (results_none rfl _ _ _) rfl ?_
    exact ⟨rfl, ((HH.out.word v).part 3).part 1, (((Chg.refl q w).set 3 _ HH.out.lt).set 0 _ (HH.out.word v).lt).set 0 _ ((HH.out.word v).part 3).lt⟩
/-! ### Take -/
theorem stake_nil (v : Int) (w : World) : Calls Tryz.prog 38 #[.pointer none, .int .u64 v] w (Same (.tuple #[]) w) := by
  go_enter Tryz.func38, Tryz.ntmps38
  go_wp2
  refine bodyPost_ret (results_none rfl _ _ _) rfl ?_
  exact ⟨rfl, rfl⟩
set_option maxRecDepth 100000 in
set_option maxHeartbeats 4000000 in
theorem stake_any {w : World} {q d b : Nat} {c i : Int} {s : Sh.S} (h : Sb w q s d c b i) (hp : s.p ≤ 3) (hr : s.r < 18446744073709551616) (v : Nat) (hv : v < 18446744073709551616) : Calls Tryz.prog 38 #[.pointer (some ⟨q, 0, none⟩), .int .u64 (v : Int)] w fun e w' => e = .returned (.tuple #[]) ∧ Sb w' q (Sh.step s v) d c b i ∧ Chg q w w' := by
  have c0 := h.c0
  have c3 := h.c3
  have f0 := h.fz 0
  have f3 := h.fz 3
  have HH := Lib.hid h; clear h
  have HF := Lib.hid (fun W => freshn v W hv)
  obtain ⟨p, r⟩ := s
  dsimp only at c0 c3 hp hr
  obtain rfl | rfl | rfl | rfl : p = 0 ∨ p = 1 ∨ p = 2 ∨ p = 3 := by omega
  · rw [show ((0 : Nat) : Int) = 0 from rfl] at c0
    go_enter Tryz.func38, Tryz.ntmps38
    go_wp2
    refine bodyPost_end (results_none rfl _ _ _) rfl ?_
    exact ⟨rfl, HH.out, Tn.refl _ _⟩
  · rw [show ((1 : Nat) : Int) = 1 from rfl] at c0
    go_enter Tryz.func38, Tryz.ntmps38
    go_wp2
    refine bodyPost_end (results_none rfl _ _ _) rfl ?_
    exact ⟨rfl, HH.out.part 2, (Chg.refl q w).set 0 _ HH.out.lt⟩
  · rw [show ((2 : Nat) : Int) = 2 from rfl] at c0
    rw [Sh.step2]
    have HK := Lib.hid (fun W => blockn v W hv)
    have HL := Lib.hid (fun W => blockn r W hr)
    have HT : Hid (∀ (W : World) (x : Bool), Below w.heap.size w W → Calls Tryz.prog 88 #[.pointer (some ⟨q, 0, none⟩), .int .u64 (v : Int), .bool x] W fun e w' => e = .returned (.tuple #[]) ∧ Sb w' q (Sh.told v x) d c b i ∧ Chg q w w') := Lib.hid (fun W x hb => (told_any (HH.out.below hb) v x).mono (fun e w' h => ⟨h.1, h.2.1, (Tn.of_below hb).trans h.2.2⟩))
    have B0 := Lib.hid (show Below w.heap.size w w.drew from (Below.refl _ w).drew)
    cases hf : Sh.fr v with
    | false =>
      rw [hf] at HF
      rw [Bool.false_and]
      clear hf hr hv HK HL
      go_enter Tryz.func38, Tryz.ntmps38
      go_wp2
      refine wp_region_any (by kernel_rfl) ?_
      change wpAny _ _ _ _ _ _ _ (World.drew _)
      refine wpAny_take (i := 0) (v := .pointer (some ⟨q, 0, none⟩)) rfl (by kernel_rfl) (by kernel_rfl) (by kernel_rfl) (fun _ _ _ h => h) (Or.inl ⟨by kernel_rfl, fun w => by kernel_rfl⟩) ?_
      refine wpAny_take (i := 1) (v := .int .u64 (v : Int)) rfl (by kernel_rfl) (by kernel_rfl) (by kernel_rfl) (fun _ _ _ h => h) (Or.inl ⟨by kernel_rfl, fun w => by kernel_rfl⟩) ?_
      refine wpAny_take (i := 2) (v := .int .u64 (v : Int)) rfl (by kernel_rfl) (by kernel_rfl) (by kernel_rfl) (fun _ _ _ h => h) (Or.inl ⟨by kernel_rfl, fun w => by kernel_rfl⟩) ?_
      refine wpAny_ready (rs := [3]) (by kernel_rfl) (by simp) ?_
      refine AllReady.cons rfl (fun K hK => ?_) AllReady.nil
      go_simp
      go_at_call 89
      refine (HF.out _).mono ?_
      rintro e w1 ⟨rfl, hb1⟩
      have B1 := Lib.hid (B0.out.trans (hb1.mono B0.out.size))
      have x1 := (HH.out.below B1.out).c3
      clear hb1
      refine hK _ _ ?_
      clear hK K
      refine wpAny_take (i := 4) (v := .bool false) rfl (by kernel_rfl) (by kernel_rfl) (by kernel_rfl) (fun _ _ _ h => h) (Or.inl ⟨by kernel_rfl, fun w => by kernel_rfl⟩) ?_
      refine wpAny_take (i := 5) (v := undef) rfl (by kernel_rfl) (by kernel_rfl) (by kernel_rfl) (fun _ _ _ h => h) (Or.inr ⟨by kernel_rfl, rfl⟩) ?_
      refine wpAny_take (i := 6) (v := undef) rfl (by kernel_rfl) (by kernel_rfl) (by kernel_rfl) (fun _ _ _ h => h) (Or.inr ⟨by kernel_rfl, rfl⟩) ?_
      refine wpAny_take (i := 7) (v := undef) rfl (by kernel_rfl) (by kernel_rfl) (by kernel_rfl) (fun _ _ _ h => h) (Or.inr ⟨by kernel_rfl, rfl⟩) ?_
      refine wpAny_take (i := 8) (v := undef) rfl (by kernel_rfl) (by kernel_rfl) (by kernel_rfl) (fun _ _ _ h => h) (Or.inr ⟨by kernel_rfl, rfl⟩) ?_
      refine wpAny_take (i := 9) (v := undef) rfl (by kernel_rfl) (by kernel_rfl) (by kernel_rfl) (fun _ _ _ h => h) (Or.inr ⟨by kernel_rfl, rfl⟩) ?_
      refine wpAny_take (i := 10) (v := undef) rfl (by kernel_rfl) (by kernel_rfl) (by kernel_rfl) (fun _ _ _ h => h) (Or.inr ⟨by kernel_rfl, rfl⟩) ?_
      refine wpAny_take (i := 11) (v := undef) rfl (by kernel_rfl) (by kernel_rfl) (by kernel_rfl) (fun _ _ _ h => h) (Or.inr ⟨by kernel_rfl, rfl⟩) ?_
      refine wpAny_take (i := 12) (v := undef) rfl (by kernel_rfl) (by kernel_rfl) (by kernel_rfl) (fun _ _ _ h => h) (Or.inr ⟨by kernel_rfl, rfl⟩) ?_
      refine wpAny_take (i := 13) (v := .bool false) rfl (by kernel_rfl) (by kernel_rfl) (by kernel_rfl) (fun _ _ _ h => h) (Or.inl ⟨by kernel_rfl, fun w => by kernel_rfl⟩) ?_
      refine wpAny_ready (rs := [14]) (by kernel_rfl) (by simp) ?_
      refine AllReady.cons rfl (fun K hK => ?_) AllReady.nil
      go_simp
      go_at_call 88
      refine (HT.out _ false B1.out).mono ?_
      rintro e w9 ⟨rfl, h9, k9⟩
      refine hK _ _ ?_
      clear hK K
      refine wpAny_done (by kernel_rfl) ?_ _
      all_goals go_wp2
      all_goals refine bodyPost_end (results_none rfl _ _ _) rfl ?_
      all_goals exact ⟨rfl, h9, k9⟩
    | true =>
      rw [hf] at HF
      rw [Bool.true_and]
      clear hf hr hv
      unfold Sh.oth
      have hx : ∀ w : World, (binOp .neq 22 (.int .u64 ((v / 8 : Nat) : Int)) (.int .u64 ((r / 8 : Nat) : Int))).run Tryz.prog w = .ok (.bool (((v / 8 : Nat) : Int) != ((r / 8 : Nat) : Int))) w := fun w => by go_simp
      generalize ((v / 8 : Nat) : Int) = y at *
      generalize ((r / 8 : Nat) : Int) = z at *
      go_enter Tryz.func38, Tryz.ntmps38
      go_wp2
      refine wp_region_any (by kernel_rfl) ?_
      change wpAny _ _ _ _ _ _ _ (World.drew _)
      refine wpAny_take (i := 0) (v := .pointer (some ⟨q, 0, none⟩)) rfl (by kernel_rfl) (by kernel_rfl) (by kernel_rfl) (fun _ _ _ h => h) (Or.inl ⟨by kernel_rfl, fun w => by kernel_rfl⟩) ?_
      refine wpAny_take (i := 1) (v := .int .u64 (v : Int)) rfl (by kernel_rfl) (by kernel_rfl) (by kernel_rfl) (fun _ _ _ h => h) (Or.inl ⟨by kernel_rfl, fun w => by kernel_rfl⟩) ?_
      refine wpAny_take (i := 2) (v := .int .u64 (v : Int)) rfl (by kernel_rfl) (by kernel_rfl) (by kernel_rfl) (fun _ _ _ h => h) (Or.inl ⟨by kernel_rfl, fun w => by kernel_rfl⟩) ?_
      refine wpAny_ready (rs := [3]) (by kernel_rfl) (by simp) ?_
      refine AllReady.cons rfl (fun K hK => ?_) AllReady.nil
      go_simp
      go_at_call 89
      refine (HF.out _).mono ?_
      rintro e w1 ⟨rfl, hb1⟩
      have B1 := Lib.hid (B0.out.trans (hb1.mono B0.out.size))
      have x1 := (HH.out.below B1.out).c3
      clear hb1
      refine hK _ _ ?_
      clear hK K
      refine wpAny_take (i := 4) (v := .bool true) rfl (by kernel_rfl) (by kernel_rfl) (by kernel_rfl) (fun _ _ _ h => h) (Or.inl ⟨by kernel_rfl, fun w => by kernel_rfl⟩) ?_
      refine wpAny_take (i := 5) (v := .int .u64 (v : Int)) rfl (by kernel_rfl) (by kernel_rfl) (by kernel_rfl) (fun _ _ _ h => h) (Or.inl ⟨by kernel_rfl, fun w => by kernel_rfl⟩) ?_
      refine wpAny_take (i := 7) (v := .pointer (some ⟨q, 0, none⟩)) rfl (by kernel_rfl) (by kernel_rfl) (by kernel_rfl) (fun _ _ _ h => h) (Or.inl ⟨by kernel_rfl, fun w => by kernel_rfl⟩) ?_
      refine wpAny_take (i := 8) (v := .pointer (some ⟨q, 0, none⟩)) rfl (by kernel_rfl) (by kernel_rfl) (by kernel_rfl) (fun _ _ _ h => h) (Or.inl ⟨by kernel_rfl, fun w => by kernel_rfl⟩) ?_
      refine wpAny_take (i := 9) (v := .pointer (some ⟨q, 3, none⟩)) rfl (by kernel_rfl) (by kernel_rfl) (by kernel_rfl) (fun _ _ _ h => h) (Or.inl ⟨by kernel_rfl, fun w => by kernel_rfl⟩) ?_
      refine wpAny_ready (rs := [6, 10]) (by kernel_rfl) (by simp) ?_
      refine AllReady.cons rfl (fun K hK => ?_) (AllReady.cons rfl (fun K hK => ?_) AllReady.nil)
      · go_simp
        go_at_call 84
        refine (HK.out _).mono ?_
        rintro e w2 ⟨rfl, hb2⟩
        have B2 := Lib.hid (B1.out.trans (hb2.mono B1.out.size))
        have x2 := (HH.out.below B2.out).c3
        clear hb2
        refine hK _ _ ?_
        clear hK K
        refine wpAny_ready (rs := [10]) (by kernel_rfl) (by simp) ?_
        refine AllReady.cons rfl (fun K hK => ?_) AllReady.nil
        go_simp
        refine hK _ _ ?_
        clear hK K
        refine wpAny_ready (rs := [11]) (by kernel_rfl) (by simp) ?_
        refine AllReady.cons rfl (fun K hK => ?_) AllReady.nil
        go_simp
        go_at_call 84
        refine (HL.out _).mono ?_
        rintro e w3 ⟨rfl, hb3⟩
        have B3 := Lib.hid (B2.out.trans (hb3.mono B2.out.size))
        have x3 := (HH.out.below B3.out).c3
        clear hb3
        refine hK _ _ ?_
        clear hK K
        refine wpAny_take (i := 12) (v := .bool (y != z)) rfl (by kernel_rfl) (by kernel_rfl) (by kernel_rfl) (fun _ _ _ h => h) (Or.inl ⟨by kernel_rfl, fun w => by first | kernel_rfl | go_simp⟩) ?_
        refine wpAny_take (i := 13) (v := .bool (y != z)) rfl (by kernel_rfl) (by kernel_rfl) (by kernel_rfl) (fun _ _ _ h => h) (Or.inl ⟨by kernel_rfl, fun w => by first | kernel_rfl | go_simp⟩) ?_
        refine wpAny_ready (rs := [14]) (by kernel_rfl) (by simp) ?_
        refine AllReady.cons rfl (fun K hK => ?_) AllReady.nil
        go_simp
        go_at_call 88
        refine (HT.out _ (y != z) B3.out).mono ?_
        rintro e w9 ⟨rfl, h9, k9⟩
        refine hK _ _ ?_
        clear hK K
        refine wpAny_done (by kernel_rfl) ?_ _
        all_goals go_wp2
        all_goals refine bodyPost_end (results_none rfl _ _ _) rfl ?_
        all_goals exact ⟨rfl, h9, k9⟩
      · go_simp
        refine hK _ _ ?_
        clear hK K
        refine wpAny_ready (rs := [6]) (by kernel_rfl) (by simp) ?_
        refine AllReady.cons rfl (fun K hK => ?_) AllReady.nil
        go_simp
        go_at_call 84
        refine (HK.out _).mono ?_
        rintro e w2 ⟨rfl, hb2⟩
        have B2 := Lib.hid (B1.out.trans (hb2.mono B1.out.size))
        have x2 := (HH.out.below B2.out).c3
        clear hb2
        refine hK _ _ ?_
        clear hK K
        refine wpAny_ready (rs := [11]) (by kernel_rfl) (by simp) ?_
        refine AllReady.cons rfl (fun K hK => ?_) AllReady.nil
        go_simp
        go_at_call 84
        refine (HL.out _).mono ?_
        rintro e w3 ⟨rfl, hb3⟩
        have B3 := Lib.hid (B2.out.trans (hb3.mono B2.out.size))
        have x3 := (HH.out.below B3.out).c3
        clear hb3
        refine hK _ _ ?_
        clear hK K
        refine wpAny_take (i := 12) (v := .bool (y != z)) rfl (by kernel_rfl) (by kernel_rfl) (by kernel_rfl) (fun _ _ _ h => h) (Or.inl ⟨by kernel_rfl, fun w => by first | kernel_rfl | go_simp⟩) ?_
        refine wpAny_take (i := 13) (v := .bool (y != z)) rfl (by kernel_rfl) (by kernel_rfl) (by kernel_rfl) (fun _ _ _ h => h) (Or.inl ⟨by kernel_rfl, fun w => by first | kernel_rfl | go_simp⟩) ?_
        refine wpAny_ready (rs := [14]) (by kernel_rfl) (by simp) ?_
        refine AllReady.cons rfl (fun K hK => ?_) AllReady.nil
        go_simp
        go_at_call 88
        refine (HT.out _ (y != z) B3.out).mono ?_
        rintro e w9 ⟨rfl, h9, k9⟩
        refine hK _ _ ?_
        clear hK K
        refine wpAny_done (by kernel_rfl) ?_ _
        all_goals go_wp2
        all_goals refine bodyPost_end (results_none rfl _ _ _) rfl ?_
        all_goals exact ⟨rfl, h9, k9⟩
  · rw [show ((3 : Nat) : Int) = 3 from rfl] at c0
    go_enter Tryz.func38, Tryz.ntmps38
    go_wp2
    refine bodyPost_end (results_none rfl _ _ _) rfl ?_
    exact ⟨rfl, HH.out, Tn.refl _ _⟩
/-! ### Result -/
theorem sres_nil (w : World) : Calls Tryz.prog 90 #[.pointer none] w (Same (.tuple #[.int .u64 0, .bool false]) w) := by
  go_enter Tryz.func90, Tryz.ntmps90
  go_wp2
  go_ret2
  exact ⟨rfl, rfl⟩
/-- What Result tells. -/
def sres (s : Sh.S) : Value := .tuple #[.int .u64 ((if s.p = 3 then s.r else 0 : Nat) : Int), .bool (decide (s.p = 3))]
set_option maxRecDepth 100000 in
set_option maxHeartbeats 4000000 in
theorem sres_any {w : World} {q d b : Nat} {c i : Int} {s : Sh.S} (h : Sb w q s d c b i) : Calls Tryz.prog 90 #[.pointer (some ⟨q, 0, none⟩)] w (Same (sres s) w) := by
  have c0 := h.c0
  have c3 := h.c3
  clear h
  unfold sres
  obtain ⟨p, r⟩ := s
  dsimp only at c0 c3 ⊢
  by_cases h4 : p = 3
  · subst h4
    rw [if_pos rfl, decide_eq_true rfl]
    rw [show ((3 : Nat) : Int) = 3 from rfl] at c0
    go_enter Tryz.func90, Tryz.ntmps90
    go_wp2
    go_ret2
    exact ⟨rfl, rfl⟩
  · rw [if_neg h4, decide_eq_false h4]
    have e1 : ((p : Int) != 3) = true := by simp; omega
    have e2 : ((p : Int) == 3) = false := by simp; omega
    clear h4
    go_enter Tryz.func90, Tryz.ntmps90
    go_wp2
    go_ret2
    exact ⟨rfl, rfl⟩
end Go.Proofs.YtknefjigdlbacaaGreatDoor
set_option linter.unusedSimpArgs false
set_option linter.unusedVariables false
namespace Go.Proofs.YtknefjigdlbacaaGreatDoor
open Go.RowKit Go.Maps
open Ac (A)
/-! ### Note -/
set_option maxRecDepth 100000 in
set_option maxHeartbeats 4000000 in
/-- crowd.Note. -/
theorem cnote_any (d : Nat) (l t : Int) (w : World) : Calls Tryz.prog 30 #[.agg #[.int .u64 (d : Int), .int .i64 l], .int .i64 t] w (Gives (av ⟨4, d, Tb.strp t, 0, 1⟩) w) := by
  have HB := Lib.hid (tboxed_below w (d : Int) l)
  have KS := Lib.hid (fun W => stripe_any t W)
  obtain ⟨W, hW⟩ : ∃ W, W = (zact (tboxed w (d : Int) l)).drew := ⟨_, rfl⟩
  have hc := (tboxed_cells (w := w) (w' := W) (d := (d : Int)) (l := l) (by rw [hW]; exact (zact_below (tboxed w (d : Int) l)).trans ((Below.refl _ (zact (tboxed w (d : Int) l))).drew.mono (zact_below _).size))).1
  obtain ⟨⟨g0, g1, g2, g3, g4⟩, ⟨e0, e1, e2, e3, e4⟩, hbb⟩ := abox (w := tboxed w (d : Int) l) (w1 := W) (by rw [hW]; exact (Below.refl _ (zact (tboxed w (d : Int) l))).drew)
  have hsz : (tboxed w (d : Int) l).heap.size = w.heap.size + 1 := World.size_alloc _ _
  obtain ⟨y, hy⟩ : ∃ y, y = w.heap.size := ⟨_, rfl⟩
  obtain ⟨z, hz⟩ : ∃ z, z = y + 1 := ⟨_, rfl⟩
  have hs : y < z := by omega
  rw [hsz, ← hy, ← hz] at g0 g1 g2 g3 g4 e0 e1 e2 e3 e4 hbb
  rw [← hy] at hc
  have HBB := Lib.hid hbb
  have hc0 := (tboxed_cells (w := w) (w' := tboxed w (d : Int) l) (d := (d : Int)) (l := l) (Below.refl _ _)).1
  rw [← hy] at hc0
  have HN := Lib.hid (fun v0 v1 v2 v3 v4 => ((hbb v0 v1 v2 v3 v4).cell (p := ⟨y, 0, none⟩) hs).trans hc0)
  clear hc0
  have HS := Lib.hid hs
  have hyz : (y == z) = false := by simp; omega
  clear hbb hs
  generalize hcc : Tb.strp t = c at KS ⊢
  clear hcc
  go_enter Tryz.func30, Tryz.ntmps30
  go_wp2
  refine wp_region_held_drew (S := fun w' => w'.cell? ⟨y, 0, none⟩ = some (.int .u64 (d : Int))) (by kernel_rfl) (by rw [show (w.alloc _ |>.alloc _).drew = W from hW.symm]; exact hc) (fun hS => ?_)
  revert hS
  rw [show ((w.alloc (.cells #[.int .u64 (d : Int), .int .i64 l] 24)).alloc (.cells #[.int .i64 0, .int .u64 0, .int .i64 0, .int .u64 0, .int .u64 0] 35)).drew = W from hW.symm, ← hy, ← hz]
  intro hS
  have HY := Lib.hid (show (tboxed w (d : Int) l).heap.size = z by omega)
  clear hW hy hz hsz hyz
  refine wpAnyH_take (i := 0) (v := .pointer (some ⟨y, 0, none⟩)) rfl (by kernel_rfl) (by kernel_rfl) (by kernel_rfl) (fun _ _ _ h => h) (Or.inl ⟨by kernel_rfl, fun w hS => by kernel_rfl⟩) hS ?_
  refine wpAnyH_take (i := 1) (v := .int .u64 (d : Int)) rfl (by kernel_rfl) (by kernel_rfl) (by kernel_rfl) (fun _ _ _ h => h) (Or.inl ⟨by kernel_rfl, fun w hS => by go_simp⟩) hS ?_
  refine wpAnyH_take (i := 2) (v := .int .i64 t) rfl (by kernel_rfl) (by kernel_rfl) (by kernel_rfl) (fun _ _ _ h => h) (Or.inl ⟨by kernel_rfl, fun w hS => by kernel_rfl⟩) hS ?_
  refine wpAnyH_ready (rs := [3]) (by kernel_rfl) (by simp) ?_
  refine AllReadyH.cons rfl (fun K hK => ?_) AllReadyH.nil
  go_simp
  go_at_call 79
  refine (KS.out _).mono ?_
  rintro e w3 ⟨rfl, rfl⟩
  refine hK.out _ _ hS (fun hS => ?_)
  clear hK K
  refine wpAnyH_take (i := 4) (v := .agg #[.int .i64 4, .int .u64 (d : Int), .int .i64 c, .int .u64 0, .int .u64 1]) rfl (by kernel_rfl) (by kernel_rfl) (by kernel_rfl) (fun _ _ _ h => h) (Or.inl ⟨by kernel_rfl, fun w hS => by kernel_rfl⟩) hS ?_
  refine wpAnyH_ready (rs := [5]) (by kernel_rfl) (by simp) ?_
  refine AllReadyH.cons rfl (fun K hK => ?_) AllReadyH.nil
  go_simp
  refine hK.out _ _ (HN.out _ _ _ _ _) (fun hS => ?_)
  clear hK K
  refine wpAnyH_done (by kernel_rfl) ?_ _
  go_wp2
  exact bodyPost_ret (v := av ⟨4, d, c, 0, 1⟩) (by simp [results, Tryz.results30, go_sem, e0, e1, e2, e3, e4]) rfl ⟨rfl, HB.out.trans ((HBB.out _ _ _ _ _).mono (by have := HB.out.size; have := HY.out; omega))⟩
set_option maxRecDepth 100000 in
set_option maxHeartbeats 4000000 in
/-- The document's Note. -/
theorem rnote_any (d : Nat) (l t : Int) (w : World) : Calls Tryz.prog 54 #[.agg #[.int .u64 (d : Int), .int .i64 l], .int .i64 t] w (Gives (av ⟨4, d, Tb.strp t, 0, 1⟩) w) := by
  have HB := Lib.hid (tboxed_below w (d : Int) l)
  have KS := Lib.hid (fun W => rstripe_any t W)
  obtain ⟨W, hW⟩ : ∃ W, W = (zact (tboxed w (d : Int) l)).drew := ⟨_, rfl⟩
  have hc := (tboxed_cells (w := w) (w' := W) (d := (d : Int)) (l := l) (by rw [hW]; exact (zact_below (tboxed w (d : Int) l)).trans ((Below.refl _ (zact (tboxed w (d : Int) l))).drew.mono (zact_below _).size))).1
  obtain ⟨⟨g0, g1, g2, g3, g4⟩, ⟨e0, e1, e2, e3, e4⟩, hbb⟩ := abox (w := tboxed w (d : Int) l) (w1 := W) (by rw [hW]; exact (Below.refl _ (zact (tboxed w (d : Int) l))).drew)
  have hsz : (tboxed w (d : Int) l).heap.size = w.heap.size + 1 := World.size_alloc _ _
  obtain ⟨y, hy⟩ : ∃ y, y = w.heap.size := ⟨_, rfl⟩
  obtain ⟨z, hz⟩ : ∃ z, z = y + 1 := ⟨_, rfl⟩
  have hs : y < z := by omega
  rw [hsz, ← hy, ← hz] at g0 g1 g2 g3 g4 e0 e1 e2 e3 e4 hbb
  rw [← hy] at hc
  have HBB := Lib.hid hbb
  have hc0 := (tboxed_cells (w := w) (w' := tboxed w (d : Int) l) (d := (d : Int)) (l := l) (Below.refl _ _)).1
  rw [← hy] at hc0
  have HN := Lib.hid (fun v0 v1 v2 v3 v4 => ((hbb v0 v1 v2 v3 v4).cell (p := ⟨y, 0, none⟩) hs).trans hc0)
  clear hc0
  have HS := Lib.hid hs
  have hyz : (y == z) = false := by simp; omega
  clear hbb hs
  generalize hcc : Tb.strp t = c at KS ⊢
  clear hcc
  go_enter Tryz.func54, Tryz.ntmps54
  go_wp2
  refine wp_region_held_drew (S := fun w' => w'.cell? ⟨y, 0, none⟩ = some (.int .u64 (d : Int))) (by kernel_rfl) (by rw [show (w.alloc _ |>.alloc _).drew = W from hW.symm]; exact hc) (fun hS => ?_)
  revert hS
  rw [show ((w.alloc (.cells #[.int .u64 (d : Int), .int .i64 l] 24)).alloc (.cells #[.int .i64 0, .int .u64 0, .int .i64 0, .int .u64 0, .int .u64 0] 35)).drew = W from hW.symm, ← hy, ← hz]
  intro hS
  have HY := Lib.hid (show (tboxed w (d : Int) l).heap.size = z by omega)
  clear hW hy hz hsz hyz
  refine wpAnyH_take (i := 0) (v := .pointer (some ⟨y, 0, none⟩)) rfl (by kernel_rfl) (by kernel_rfl) (by kernel_rfl) (fun _ _ _ h => h) (Or.inl ⟨by kernel_rfl, fun w hS => by kernel_rfl⟩) hS ?_
  refine wpAnyH_take (i := 1) (v := .int .u64 (d : Int)) rfl (by kernel_rfl) (by kernel_rfl) (by kernel_rfl) (fun _ _ _ h => h) (Or.inl ⟨by kernel_rfl, fun w hS => by go_simp⟩) hS ?_
  refine wpAnyH_take (i := 2) (v := .int .i64 t) rfl (by kernel_rfl) (by kernel_rfl) (by kernel_rfl) (fun _ _ _ h => h) (Or.inl ⟨by kernel_rfl, fun w hS => by kernel_rfl⟩) hS ?_
  refine wpAnyH_ready (rs := [3]) (by kernel_rfl) (by simp) ?_
  refine AllReadyH.cons rfl (fun K hK => ?_) AllReadyH.nil
  go_simp
  go_at_call 106
  refine (KS.out _).mono ?_
  rintro e w3 ⟨rfl, rfl⟩
  refine hK.out _ _ hS (fun hS => ?_)
  clear hK K
  refine wpAnyH_take (i := 4) (v := .agg #[.int .i64 4, .int .u64 (d : Int), .int .i64 c, .int .u64 0, .int .u64 1]) rfl (by kernel_rfl) (by kernel_rfl) (by kernel_rfl) (fun _ _ _ h => h) (Or.inl ⟨by kernel_rfl, fun w hS => by kernel_rfl⟩) hS ?_
  refine wpAnyH_ready (rs := [5]) (by kernel_rfl) (by simp) ?_
  refine AllReadyH.cons rfl (fun K hK => ?_) AllReadyH.nil
  go_simp
  refine hK.out _ _ (HN.out _ _ _ _ _) (fun hS => ?_)
  clear hK K
  refine wpAnyH_done (by kernel_rfl) ?_ _
  go_wp2
  exact bodyPost_ret (v := av ⟨4, d, c, 0, 1⟩) (by simp [results, Tryz.results54, go_sem, e0, e1, e2, e3, e4]) rfl ⟨rfl, HB.out.trans ((HBB.out _ _ _ _ _).mono (by have := HB.out.size; have := HY.out; omega))⟩
end Go.Proofs.YtknefjigdlbacaaGreatDoor
