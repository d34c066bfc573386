/-
  The walk of Alloc. By an AI agent.
-/
import Derived.Test.YtdbolhalgbiggaaArenaOps2
import Derived.Deep.QuietTactic
import Derived.BigQuiet
set_option linter.unusedSimpArgs false
namespace Go.Proofs.Ytdbolhalgbiggaa
open Go.RowKit Go.Maps
open Mm (Mem Blk)
theorem made_zero (n : Nat) : madeCells (Value.int .u64 0).cells n = wd (List.replicate n 0) := by
  unfold madeCells wd
  apply Array.ext_getElem?
  intro k
  by_cases h : k < n <;> simp [h, Value.cells, List.getElem?_replicate, Nat.mod_one]
theorem make_any (n : Nat) (h : n ≤ 1000000) (W : World) : (Instr.makeSlice 25 (.int .i64 (n : Int)) (.int .i64 (n : Int))).run Try.prog W = .ok (.slice (some ⟨W.heap.size, 0, none⟩) n n) (W.alloc (.cells (wd (List.replicate n 0)) 22)) := by
  obtain ⟨i0, hi, hz0, hz1, hz2⟩ := info_parts info_u64
  have hr := run_make (P := Try.prog) W 25 22 i0 (.int .u64 0) Try.underlying25 hi hz0 .i64 .i64 n n (by omega) (Int.le_refl _) (by rw [hz2]; omega) (by omega)
  simp only [Int.toNat_natCast] at hr
  rw [hr, hz1, Nat.mul_one, made_zero]
theorem quiet_of {f : FuncId} {args : Array Value} {w : World} {n : Nat} {v : Value} (h : Calls Try.prog f args (w.drewN n) (Same v (w.drewN n))) : Calls Try.prog f args (w.drewN n) fun e w'' => e = .returned v ∧ ∃ m, w'' = w.drewN m :=
  h.mono fun _ _ ⟨he, hm⟩ => ⟨he, n, hm.symm⟩
theorem below_drewN (w : World) (n : Nat) : Below w.heap.size w (w.drewN n) := ⟨rfl, rfl, rfl, Nat.le_refl _, fun _ _ => rfl⟩
theorem Ar.drewN {B : Nat} {w : World} {p m : Nat} {g : Nat → Nat} {S : Mem} (h : Ar B w p m g S) (n : Nat) : Ar B (w.drewN n) p m g S := h.keep fun _ _ => rfl
set_option maxRecDepth 100000 in
set_option maxHeartbeats 2000000 in
theorem alloc_no {B : Nat} {w : World} {p : Nat} {S : Mem} {F : Nat → Prop} (h : Ax B w p S F) (n : Int) (hn : n < 1 ∨ (S.room : Int) - (Mm.used S.L : Int) < n) :
    Calls Try.prog 15 #[.pointer (some ⟨p, 0, none⟩), .int .i64 n] w (Gives (.int .u64 0) w) := by
  obtain ⟨m, g, h, rfl⟩ := h
  have HM := Lib.hid fun n => quiet_of (h.drewN n).made
  have c0 := h.c0
  have c1 := h.c1
  have hfit := h.good.fits
  have hr2 := h.good.r2
  clear h
  generalize Mm.used S.L = us at *
  generalize S.room = rm at *
  have hw1 : IntKind.i64.wrap ((rm : Int) - (us : Int)) = (rm : Int) - (us : Int) := IntWalk.i64_in _ (by omega)
  by_cases h1 : n < 1
  · clear hn
    go_enter Try.func15, Try.ntmps15
    go_wp2
    go_quiet ((go_at_call 29; with_reducible exact HM.out _))
    go_wp2
    go_ret
    exact ⟨rfl, below_drewN _ _⟩
  · have h2 : (rm : Int) - (us : Int) < n := by omega
    have d1 : decide (n < 1) = false := by simpa using h1
    have d2 : decide ((rm : Int) - (us : Int) < n) = true := by simpa using h2
    clear hn h1 h2 hfit hr2
    go_enter Try.func15, Try.ntmps15
    go_wp2
    go_quiet ((go_at_call 29; with_reducible exact HM.out _))
    go_wp2
    go_ret
    exact ⟨rfl, below_drewN _ _⟩
/-- A block is given out: the map's run, and the arena behind it. -/
theorem Ar.alloced {B : Nat} {w : World} {p m : Nat} {g : Nat → Nat} {S : Mem} (h : Ar B w p m g S) (hB : B ≤ w.heap.size) (n : Nat) (h1 : 1 ≤ n) (hn : n ≤ S.room - Mm.used S.L) (hl : S.last ≤ 1000000000000) (q : Nat) (W : World)
    (hW : ((w.drewN q).setCell ⟨p, 2, none⟩ (.int .u64 ((S.last : Int) + 1))).setCell ⟨p, 1, none⟩ (.int .i64 ((Mm.used S.L : Int) + (n : Int))) = W) :
    ∃ w2, (Instr.mapUpdate 58 (.map (some m)) (.int .u64 ((S.last : Int) + 1)) (.slice (some ⟨W.heap.size, 0, none⟩) n n)).run Try.prog ((W.alloc (.cells (wd (List.replicate n 0)) 22)).drew) = .ok () w2 ∧
      w2.cell? ⟨p, 2, none⟩ = some (.int .u64 ((S.last : Int) + 1)) ∧ ∃ g', Ar B w2 p m g' (S.alloc n) ∧ Tn (Fp p m g S) (Fp p m g' (S.alloc n)) w w2 := by
  have hsz : W.heap.size = w.heap.size := by subst hW; simp [World.setCell, World.drewN]
  have hown : W.heap[p]? = some (.cells #[.int .i64 (S.room : Int), .int .i64 ((Mm.used S.L : Int) + (n : Int)), .int .u64 ((S.last : Int) + 1), .int .i64 (S.faults : Int), .map (some m)] 60 (0, 0)) := by
    subst hW
    exact heap_setc (heap_setc (w := w.drewN q) h.own 2 _) 1 _
  have hoth : ∀ k, k ≠ p → W.heap[k]? = w.heap[k]? := fun k hk => by
    subst hW
    exact (Below.heap_setCell _ _ _ _ hk).trans (Below.heap_setCell _ _ _ _ hk)
  obtain ⟨nn, D, hnn, ho, hh⟩ := h.map
  have ho1 : ((W.alloc (.cells (wd (List.replicate n 0)) 22)).drew).ownsMap Try.prog 22 hv m nn D :=
    map_keep ho ((Below.heap_alloc W _ m (by rw [hsz]; exact h.ltm)).trans (hoth m (fun e => h.pm e.symm)))
  have hkey := key_u64 (n := S.last + 1) (by omega)
  rw [show (((S.last + 1 : Nat) : Int)) = (S.last : Int) + 1 by omega] at hkey
  obtain ⟨w2, hrun, ho2, ht⟩ := ho1.store law Try.underlying58 (by unfold maxLen; omega) hkey (val := .slice (some ⟨W.heap.size, 0, none⟩) n n) (d := .held (sl w.heap.size n)) (ps := []) (by rw [hsz]; rfl)
  have hg := ht.grown
  have hblk : ∀ k, k < w.heap.size → k ≠ p → k ≠ m → w2.heap[k]? = w.heap[k]? := fun k hk e1 e2 =>
    (hg.block k (by simp [World.drew, hsz]; omega) (fun e => e2 (by cases e; rfl))).trans ((Below.heap_alloc W _ k (by rw [hsz]; exact hk)).trans (hoth k e1))
  have hp : w2.heap[p]? = W.heap[p]? := (hg.block p (by have := h.lt; simp [World.drew, hsz]; omega) (fun e => h.pm (by cases e; rfl))).trans (Below.heap_alloc W _ p (by rw [hsz]; exact h.lt))
  have hnew : w2.heap[w.heap.size]? = some (.cells (wd (List.replicate n 0)) 22 (0, 0)) := by
    have := h.ltm
    refine (hg.block w.heap.size (by simp [World.drew, hsz]) (fun e => by cases e; omega)).trans ?_
    rw [← hsz]
    exact heap_alloc_new W _
  have hz2 : w.heap.size ≤ w2.heap.size := by have := hg.size; simp [World.drew, hsz] at this; omega
  have hup : ∀ b ∈ S.L, b.1 ≠ S.last + 1 := fun b hb => by have := (h.good.up.mem b hb).2; omega
  refine ⟨w2, hrun, by rw [World.cell?_of_block (w := W) (a := ⟨p, 2, none⟩) hp]; simp [World.cell?, hown], fun k => if k = S.last + 1 then w.heap.size else g k, ⟨h.pB, h.mB, ?_, ⟨nn + 1, _, Nat.succ_le_succ hnn, ho2, fun k => ?_, fun k us hk => ?_⟩, fun c hc => ?_, fun c hc d hd e => ?_, h.good.alloc h1 hn⟩, ⟨hg.os.trans (by subst hW; rfl), hg.tape.trans (by subst hW; rfl), hg.output.trans (by subst hW; rfl), hz2, fun k hk hF => hblk k hk (fun e => hF (.inl e)) (fun e => hF (.inr (.inl e))), fun k hk => ?_⟩⟩
  · rw [hp, hown]
    show _ = some (Obj.cells #[_, Value.int .i64 (Mm.used (S.L ++ [(S.last + 1, List.replicate n 0)]) : Int), Value.int .u64 ((S.last + 1 : Nat) : Int), _, _] _ _)
    rw [Mm.used_append]
    simp [Mm.used]
    exact ⟨rfl, rfl⟩
  · show _ = (Mm.get (S.L ++ [(S.last + 1, List.replicate n 0)]) k).isSome
    rw [Mm.get_append]
    by_cases e : k = S.last + 1
    · subst e
      rw [Maps.has_put_same ho1.isMap]
      · simp [Mm.get]
      · trivial
    · rw [Maps.has_put_other (fun e2 => e (ky_inj e2)), hh.has]
      have e2 : ¬ S.last + 1 = k := fun e3 => e e3.symm
      simp [Mm.get, e2]
  · have hk' : Mm.get (S.L ++ [(S.last + 1, List.replicate n 0)]) k = some us := hk
    rw [Mm.get_append] at hk'
    by_cases e : k = S.last + 1
    · subst e
      rw [Mm.new_get S h.good] at hk'
      simp [Mm.get] at hk'
      subst hk'
      refine ⟨n, ?_⟩
      rw [Maps.atKey_put_same ho1.isMap]
      · simp [sv, sl]
      · trivial
    · have e2 : ¬ S.last + 1 = k := fun e3 => e e3.symm
      simp [Mm.get, e2] at hk'
      rw [Maps.atKey_put_other (fun e2 => e (ky_inj e2)), if_neg e]
      exact hh.at_ k us hk'
  · rcases List.mem_append.1 hc with hc | hc
    · rw [if_neg (hup c hc)]
      exact ⟨(h.row c hc).1, (h.row c hc).2.keep (hblk _ (h.ltb c hc) (h.pg c hc) (h.mg c hc))⟩
    · simp at hc
      subst hc
      simp only [if_true]
      exact ⟨hB, .of hnew⟩
  · rcases List.mem_append.1 hc with hc | hc <;> rcases List.mem_append.1 hd with hd | hd
    · rw [if_neg (hup c hc), if_neg (hup d hd)] at e
      exact h.inj c hc d hd e
    · simp at hd
      subst hd
      simp only [if_true] at e
      rw [if_neg (hup c hc)] at e
      have := h.ltb c hc
      omega
    · simp at hc
      subst hc
      simp only [if_true] at e
      rw [if_neg (hup d hd)] at e
      have := h.ltb d hd
      omega
    · simp at hc hd
      rw [hc, hd]
  · rcases hk with hk | hk | ⟨c, hc, hk⟩
    · exact .inl (.inl hk)
    · exact .inl (.inr (.inl hk))
    · rcases List.mem_append.1 hc with hc | hc
      · dsimp only at hk
        rw [if_neg (hup c hc)] at hk
        exact .inl (.inr (.inr ⟨c, hc, hk⟩))
      · simp at hc
        subst hc
        simp only [if_true] at hk
        exact .inr (by omega)
set_option maxRecDepth 100000 in
set_option maxHeartbeats 2000000 in
theorem alloc_ok {B : Nat} {w : World} {p : Nat} {S : Mem} {F : Nat → Prop} (h : Ax B w p S F) (hB : B ≤ w.heap.size) (n : Nat) (h1 : 1 ≤ n) (hn : n ≤ S.room - Mm.used S.L) (hl : S.last ≤ 1000000000000) :
    Calls Try.prog 15 #[.pointer (some ⟨p, 0, none⟩), .int .i64 (n : Int)] w (Turns (.int .u64 ((S.last : Int) + 1)) B p (S.alloc n) F w) := by
  obtain ⟨m, g, h, rfl⟩ := h
  have HM := Lib.hid fun n => quiet_of (h.drewN n).made
  have c0 := h.c0
  have c1 := h.c1
  have c2 := h.c2
  have c4 := h.c4
  have f1 := h.fz 1
  have f2 := h.fz 2
  have hfit := h.good.fits
  have hr2 := h.good.r2
  have hpm := h.pm
  have hlt := h.lt
  have H := Lib.hid fun q => h.alloced hB n h1 hn hl q _ rfl; clear h
  have hd1 : decide ((n : Int) < 1) = false := by simp; omega
  have hd2 : decide ((S.room : Int) - (Mm.used S.L : Int) < (n : Int)) = false := by simp; omega
  have hn6 : n ≤ 1000000 := by omega
  have hus : Mm.used S.L ≤ 1000000 := by omega
  have hw1 : IntKind.i64.wrap ((S.room : Int) - (Mm.used S.L : Int)) = (S.room : Int) - (Mm.used S.L : Int) := IntWalk.i64_in _ (by omega)
  clear hfit hr2 hn
  obtain ⟨us, eus⟩ : ∃ us, us = Mm.used S.L := ⟨_, rfl⟩
  obtain ⟨rm, erm⟩ : ∃ rm, rm = S.room := ⟨_, rfl⟩
  obtain ⟨la, ela⟩ : ∃ la, la = S.last := ⟨_, rfl⟩
  rw [← eus] at H
  rw [← ela] at H hl
  rw [← eus, ← erm] at hw1 hd2
  rw [← eus] at c1 hus
  rw [← erm] at c0
  rw [← ela] at c2 ⊢
  clear eus erm ela
  go_enter Try.func15, Try.ntmps15
  go_wp2
  go_quiet ((go_at_call 29; with_reducible exact HM.out _))
  go_wp2
  obtain ⟨w2, hrun, d2, g', ha, ht⟩ := H.out nq
  obtain ⟨W, hW⟩ : ∃ W, ((w.drewN nq).setCell ⟨p, 2, none⟩ (.int .u64 ((la : Int) + 1))).setCell ⟨p, 1, none⟩ (.int .i64 ((us : Int) + (n : Int))) = W := ⟨_, rfl⟩
  rw [hW] at hrun ⊢
  have k2 : W.cell? ⟨p, 2, none⟩ = some (.int .u64 ((la : Int) + 1)) := by rw [← hW]; simp [c2, go_sem]
  have k4 : W.cell? ⟨p, 4, none⟩ = some (.map (some m)) := by rw [← hW]; simp [c4, go_sem]
  have hsz : W.heap.size = w.heap.size := by rw [← hW]; simp [World.setCell, World.drewN]
  have k2a : ∀ o, (W.alloc o).cell? ⟨p, 2, none⟩ = some (.int .u64 ((la : Int) + 1)) := fun o => by rw [World.cell?_of_block (w := W) (a := ⟨p, 2, none⟩) (Below.heap_alloc W _ p (by omega))]; exact k2
  have k4a : ∀ o, (W.alloc o).cell? ⟨p, 4, none⟩ = some (.map (some m)) := fun o => by rw [World.cell?_of_block (w := W) (a := ⟨p, 4, none⟩) (Below.heap_alloc W _ p (by omega))]; exact k4
  have mk := fun W => make_any n hn6 W
  have HA := Lib.hid ha; clear ha
  have HT := Lib.hid ht; clear ht
  clear hW hsz
  go_region
  all_goals go_wp2
  all_goals go_ret
  all_goals exact ⟨rfl, _, ⟨_, _, HA.out, rfl⟩, HT.out⟩
end Go.Proofs.Ytdbolhalgbiggaa
