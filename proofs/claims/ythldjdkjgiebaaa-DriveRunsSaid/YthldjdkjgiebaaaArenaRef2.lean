/-
  The walks of the document's Fault, Load, Store, Cas, Add, Size. By an AI agent.
-/
import Derived.Test.YthldjdkjgiebaaaArenaRef
import Derived.StillTailTactics
import Derived.Deep.RegionHeld3
set_option linter.unusedSimpArgs false
namespace Go.Proofs.Ythldjdkjgiebaaa
open Go.RowKit Go.Maps
open Mm (Mem Blk)
theorem own_ne {w : World} {base : Nat} {e t : TypeId} {size : Nat} {v : Value} {n : Nat} {xs : List Value} (h : w.ownsRow base e size v n xs) {k : Nat} {c : Array Value} {z : Nat × Nat} (hk : w.heap[k]? = some (.cells c t z)) (hte : t ≠ e) : v.ownBlock ≠ some k := by
  intro e1
  rcases h.2 with ⟨rfl, _⟩ | ⟨g, cap, cur, rfl, _, hg, _⟩
  · cases e1
  · cases e1
    rw [hk] at hg
    simp only [Option.some.injEq, Obj.cells.injEq] at hg
    exact hte hg.2.1
section
variable {B : Nat} {w : World} {x : Nat} {v : Value} {h : Nat → Nat} {S : Mem} (r : Rf B w x v h S)
include r
theorem Rf.xh : ∀ b ∈ S.L, h b.1 ≠ x := fun b hb e => by
  have := (r.row b hb).2
  rw [e, r.own] at this
  simp at this
theorem Rf.faulted : Rf B (w.setCell ⟨x, 1, none⟩ (.int .i64 ((S.faults : Int) + 1))) x v h S.fault ∧ Tn (Gp x v h S) (Gp x v h S.fault) w (w.setCell ⟨x, 1, none⟩ (.int .i64 ((S.faults : Int) + 1))) := by
  refine ⟨⟨r.xB, heap_setc r.own 1 _, own_keep r.list fun k hk => Below.heap_setCell _ _ _ _ (fun e => own_ne r.list r.own (by decide) (by have e' : k = x := e; rw [← e']; exact hk)), fun b hb => ⟨(r.row b hb).1, (Below.heap_setCell _ _ _ _ (r.xh b hb)).trans (r.row b hb).2⟩, r.inj, r.good.fault⟩, ⟨rfl, rfl, rfl, by simp [World.setCell], fun k hk hF => Below.heap_setCell _ _ _ _ (fun e => hF (.inl e)), fun k hk => .inl hk⟩⟩
theorem Rf.stored {b : Nat} {ws : List Int} (hg : Mm.get S.L b = some ws) (i : Nat) (y : Int) :
    Rf B (w.setCell ⟨h b, i, none⟩ (.int .u64 y)) x v h (S.put b i y) ∧ Tn (Gp x v h S) (Gp x v h (S.put b i y)) w (w.setCell ⟨h b, i, none⟩ (.int .u64 y)) := by
  have hm := Mm.get_some_mem hg
  have hmem : ∀ c ∈ Mm.put S.L b i y, ∃ d ∈ S.L, d.1 = c.1 := fun c hc => by
    rcases Mm.mem_put hc with ⟨_, h2⟩ | ⟨h1, ws, h2, _⟩
    · exact ⟨c, h2, rfl⟩
    · exact ⟨_, h2, h1.symm⟩
  have henc : ∀ l : List Blk, encB h (Mm.put l b i y) = encB h l := fun l => by
    induction l with
    | nil => rfl
    | cons c l ih =>
      unfold Mm.put
      split <;> simp [encB, ih]
  have hlen : (Mm.put S.L b i y).length = S.L.length := by
    have := congrArg List.length (Mm.put_keys S.L b i y)
    simpa using this
  refine ⟨⟨r.xB, ?_, ?_, fun c hc => ?_, fun c hc d hd e => ?_, r.good.put b i y⟩, ⟨rfl, rfl, rfl, by simp [World.setCell], fun k hk hF => Below.heap_setCell _ _ _ _ (fun e => hF (.inr (.inr ⟨_, hm, e⟩))), fun k hk => .inl ?_⟩⟩
  · rw [Below.heap_setCell _ _ _ _ (fun e => r.xh _ hm e.symm), r.own]
    rfl
  · show (w.setCell _ _).ownsRow _ _ _ _ (Mm.put S.L b i y).length (encB h (Mm.put S.L b i y))
    rw [henc, hlen]
    exact own_keep r.list fun k hk => Below.heap_setCell _ _ _ _ (fun e => own_ne r.list (r.row _ hm).2 (by decide) (by have e' : k = h b := e; rw [← e']; exact hk))
  · rcases Mm.mem_put hc with ⟨h1, h2⟩ | ⟨h1, us, h2, h3⟩
    · exact ⟨(r.row c h2).1, (Below.heap_setCell _ _ _ _ (fun e => h1 (r.inj c h2 _ hm e))).trans (r.row c h2).2⟩
    · have hr := r.row _ h2
      have e2 := Mm.get_of_mem r.good.up _ h2
      have e3 : us = ws := by simpa [hg] using e2.symm
      subst e3
      rw [h1, h3]
      exact ⟨hr.1, by rw [heap_setc hr.2, wd_set]⟩
  · obtain ⟨c', hc', e1⟩ := hmem c hc
    obtain ⟨d', hd', e2⟩ := hmem d hd
    rw [← e1, ← e2] at e ⊢
    exact r.inj c' hc' d' hd' e
  · rcases hk with hk | hk | ⟨c, hc, hk⟩
    · exact .inl hk
    · exact .inr (.inl hk)
    · obtain ⟨c', hc', e1⟩ := hmem c hc
      exact .inr (.inr ⟨c', hc', by rw [e1]; exact hk⟩)
theorem Rf.place_some {b : Nat} {ws : List Int} (hg : Mm.get S.L b = some ws) : Calls Try.prog 43 #[.pointer (some ⟨x, 0, none⟩), .int .u64 (b : Int)] w (Same (.int .i64 (Mm.pos S.L b : Int)) w) := by
  have := place_pos r b
  unfold plc at this
  rw [hg] at this
  exact this
theorem Rf.place_none {b : Nat} (hg : Mm.get S.L b = none) : Calls Try.prog 43 #[.pointer (some ⟨x, 0, none⟩), .int .u64 (b : Int)] w (Same (.int .i64 (-1)) w) := by
  have := place_pos r b
  unfold plc at this
  rw [hg] at this
  exact this
end
set_option maxRecDepth 100000 in
set_option maxHeartbeats 1000000 in
theorem rfault_ok {B : Nat} {w : World} {x : Nat} {v : Value} {h : Nat → Nat} {S : Mem} (r : Rf B w x v h S) {b : Nat} {ws : List Int} (hg : Mm.get S.L b = some ws) (i : Nat) (hi : i < ws.length) :
    Calls Try.prog 42 #[.pointer (some ⟨x, 0, none⟩), .int .u64 (b : Int), .int .i64 (i : Int)] w (Same (.int .i64 0) w) := by
  have KP := Lib.hid (r.place_some hg)
  have c3 := r.c3
  obtain ⟨g, c, rfl, -, c2⟩ := r.at (Mm.pos_at hg)
  have hp := (List.getElem?_eq_some_iff.1 (Mm.pos_at hg)).1
  clear r hg
  generalize Mm.pos S.L b = p at *
  generalize S.L.length = N at *
  have hpZ : (p : Int) < (N : Int) := by omega
  simp only at c2
  generalize ws.length = n at *
  unfold sl at c2
  have hd : decide (n ≤ i) = false := by simpa using hi
  have hdZ : decide ((n : Int) ≤ (i : Int)) = false := by simpa using hi
  go_enter Try.func42, Try.ntmps42
  go_wp2_with (go_at_call 43; refine KP.out.mono ?_; rintro e w' ⟨rfl, rfl⟩)
  go_ret
  exact ⟨rfl, rfl⟩
set_option maxRecDepth 100000 in
set_option maxHeartbeats 1000000 in
theorem rfault_bad {B : Nat} {w : World} {x : Nat} {v : Value} {h : Nat → Nat} {S : Mem} (r : Rf B w x v h S) {b : Nat} (i : Int) (hw : Mm.wrong S b i ≠ 0) (hf : S.faults ≤ 1000000000000) :
    Calls Try.prog 42 #[.pointer (some ⟨x, 0, none⟩), .int .u64 (b : Int), .int .i64 i] w fun e w' => e = .returned (.int .i64 (Mm.wrong S b i)) ∧ w.setCell ⟨x, 1, none⟩ (.int .i64 ((S.faults : Int) + 1)) = w' := by
  have c1 := r.c1
  have f1 := r.fz 1
  unfold Mm.wrong at hw ⊢
  cases hg : Mm.get S.L b with
  | none =>
    have KP := Lib.hid (r.place_none hg)
    clear r hg hw
    generalize S.faults = f at *
    go_enter Try.func42, Try.ntmps42
    go_wp2_with (go_at_call 43; refine KP.out.mono ?_; rintro e w' ⟨rfl, rfl⟩)
    go_ret
    exact ⟨rfl, rfl⟩
  | some ws =>
    rw [hg] at hw
    have KP := Lib.hid (r.place_some hg)
    have c3 := r.c3
    obtain ⟨g, c, rfl, -, c2⟩ := r.at (Mm.pos_at hg)
    have hp := (List.getElem?_eq_some_iff.1 (Mm.pos_at hg)).1
    clear r hg
    simp only at hw c2 ⊢
    by_cases hc : 0 ≤ i ∧ i < ws.length
    · simp [hc] at hw
    · rw [if_neg hc]
      clear hw
      generalize Mm.pos S.L b = p at *
      generalize S.L.length = N at *
      generalize S.faults = f at *
      have hpZ : (p : Int) < (N : Int) := by omega
      generalize ws.length = n at *
      unfold sl at c2
      by_cases h0 : i < 0
      · clear hc
        go_enter Try.func42, Try.ntmps42
        go_wp2_with (go_at_call 43; refine KP.out.mono ?_; rintro e w' ⟨rfl, rfl⟩)
        go_ret
        exact ⟨rfl, rfl⟩
      · have h1 : (n : Int) ≤ i := by omega
        have h0B : decide (i < 0) = false := by simpa using h0
        have h1B : decide ((n : Int) ≤ i) = true := by simpa using h1
        clear hc
        go_enter Try.func42, Try.ntmps42
        go_wp2_with (go_at_call 43; refine KP.out.mono ?_; rintro e w' ⟨rfl, rfl⟩)
        go_ret
        exact ⟨rfl, rfl⟩
set_option maxRecDepth 100000 in
set_option maxHeartbeats 1000000 in
theorem rload_ok {B : Nat} {w : World} {x : Nat} {S : Mem} {G : Nat → Prop} (r : Rx B w x S G) {b : Nat} {ws : List Int} (hg : Mm.get S.L b = some ws) (i : Nat) {y : Int} (hy : ws[i]? = some y) :
    Calls Try.prog 31 #[.pointer (some ⟨x, 0, none⟩), .int .u64 (b : Int), .int .i64 (i : Int)] w (Gives (we y 0) w) := by
  obtain ⟨v, h, r, rfl⟩ := r
  obtain ⟨hi, -⟩ := List.getElem?_eq_some_iff.1 hy
  have KF := Lib.hid (rfault_ok r hg i hi)
  have KP := Lib.hid fun n => quiet_of ((r.drewN n).place_some hg)
  have c3 := r.c3
  obtain ⟨cb, -⟩ := r.cellb hg hy
  obtain ⟨g, c, rfl, -, c2⟩ := r.at (Mm.pos_at hg)
  have hp := (List.getElem?_eq_some_iff.1 (Mm.pos_at hg)).1
  clear r hg hy
  simp only at c2
  generalize Mm.pos S.L b = p at *
  generalize S.L.length = N at *
  have hpZ : (p : Int) < (N : Int) := by omega
  generalize ws.length = n at *
  unfold sl at c2
  have hiZ : (i : Int) < (n : Int) := by omega
  go_enter Try.func31, Try.ntmps31
  go_wp2_with (go_at_call 42; refine KF.out.mono ?_; rintro e w' ⟨rfl, rfl⟩)
  go_quiet ((go_at_call 43; with_reducible exact KP.out _))
  go_wp2
  go_ret2
  exact ⟨rfl, below_drewN _ _⟩
set_option maxRecDepth 100000 in
set_option maxHeartbeats 1000000 in
theorem rload_bad {B : Nat} {w : World} {x : Nat} {S : Mem} {G : Nat → Prop} (r : Rx B w x S G) {b : Nat} (i : Int) (hw : Mm.wrong S b i ≠ 0) (hf : S.faults ≤ 1000000000000) :
    Calls Try.prog 31 #[.pointer (some ⟨x, 0, none⟩), .int .u64 (b : Int), .int .i64 i] w (RTurns (we 0 (Mm.wrong S b i)) B x S.fault G w) := by
  obtain ⟨v, h, r, rfl⟩ := r
  have KF := Lib.hid (rfault_bad r i hw hf)
  have HF := Lib.hid r.faulted
  have h0 : (Mm.wrong S b i != 0) = true := by simpa using hw
  clear r hw
  generalize Mm.wrong S b i = c at *
  go_enter Try.func31, Try.ntmps31
  go_wp2_with (go_at_call 42; refine KF.out.mono ?_; rintro e w' ⟨rfl, rfl⟩)
  go_ret2
  exact ⟨rfl, _, ⟨_, _, HF.out.1, rfl⟩, HF.out.2⟩
set_option maxRecDepth 100000 in
set_option maxHeartbeats 1000000 in
theorem rstore_bad {B : Nat} {w : World} {x : Nat} {S : Mem} {G : Nat → Prop} (r : Rx B w x S G) {b : Nat} (i : Int) (hw : Mm.wrong S b i ≠ 0) (hf : S.faults ≤ 1000000000000) (y : Int) :
    Calls Try.prog 32 #[.pointer (some ⟨x, 0, none⟩), .int .u64 (b : Int), .int .i64 i, .int .u64 y] w (RTurns (.int .i64 (Mm.wrong S b i)) B x S.fault G w) := by
  obtain ⟨v, h, r, rfl⟩ := r
  have KF := Lib.hid (rfault_bad r i hw hf)
  have HF := Lib.hid r.faulted
  have h0 : (Mm.wrong S b i != 0) = true := by simpa using hw
  clear r hw
  generalize Mm.wrong S b i = c at *
  go_enter Try.func32, Try.ntmps32
  go_wp2_with (go_at_call 42; refine KF.out.mono ?_; rintro e w' ⟨rfl, rfl⟩)
  go_ret
  exact ⟨rfl, _, ⟨_, _, HF.out.1, rfl⟩, HF.out.2⟩
set_option maxRecDepth 100000 in
set_option maxHeartbeats 1000000 in
theorem rstore_ok {B : Nat} {w : World} {x : Nat} {S : Mem} {G : Nat → Prop} (r : Rx B w x S G) {b : Nat} {ws : List Int} (hg : Mm.get S.L b = some ws) (i : Nat) (hi : i < ws.length) (y : Int) :
    Calls Try.prog 32 #[.pointer (some ⟨x, 0, none⟩), .int .u64 (b : Int), .int .i64 (i : Int), .int .u64 y] w (RTurns (.int .i64 0) B x (S.put b i y) G w) := by
  obtain ⟨v, h, r, rfl⟩ := r
  have KF := Lib.hid (rfault_ok r hg i hi)
  have KP := Lib.hid ((r.keep (w' := w.drew) fun _ _ => rfl).place_some hg)
  have c3 := r.c3
  obtain ⟨cb, fb⟩ := r.cellb hg (List.getElem?_eq_getElem hi)
  have HF := Lib.hid ((r.keep (w' := w.drew) fun _ _ => rfl).stored hg i y)
  obtain ⟨g, c, rfl, -, c2⟩ := r.at (Mm.pos_at hg)
  have hp := (List.getElem?_eq_some_iff.1 (Mm.pos_at hg)).1
  clear r hg
  simp only at c2
  generalize ws[i] = y0 at *
  generalize Mm.pos S.L b = p at *
  generalize S.L.length = N at *
  have hpZ : (p : Int) < (N : Int) := by omega
  generalize ws.length = n at *
  unfold sl at c2
  have hiZ : (i : Int) < (n : Int) := by omega
  go_enter Try.func32, Try.ntmps32
  go_wp2_with (go_at_call 42; refine KF.out.mono ?_; rintro e w' ⟨rfl, rfl⟩)
  go_region_with (go_at_call 43; refine KP.out.mono ?_; rintro e w' ⟨rfl, rfl⟩)
  all_goals go_wp2
  all_goals go_ret
  all_goals exact ⟨rfl, _, ⟨_, _, HF.out.1, rfl⟩, (Tn.of_below (below_drewN w 1)).trans HF.out.2⟩
set_option maxRecDepth 100000 in
set_option maxHeartbeats 1000000 in
theorem rcas_bad {B : Nat} {w : World} {x : Nat} {S : Mem} {G : Nat → Prop} (r : Rx B w x S G) {b : Nat} (i : Int) (hw : Mm.wrong S b i ≠ 0) (hf : S.faults ≤ 1000000000000) (o y : Int) :
    Calls Try.prog 33 #[.pointer (some ⟨x, 0, none⟩), .int .u64 (b : Int), .int .i64 i, .int .u64 o, .int .u64 y] w (RTurns (we 0 (Mm.wrong S b i)) B x S.fault G w) := by
  have KL := Lib.hid (rload_bad r i hw hf)
  have h0 : (Mm.wrong S b i == 0) = false := by simpa using hw
  clear r hw
  generalize Mm.wrong S b i = c at *
  unfold we at KL
  go_enter Try.func33, Try.ntmps33
  go_wp2_with (go_at_call 31; refine KL.out.mono ?_; rintro e w' ⟨rfl, HH⟩)
  go_ret2
  exact ⟨rfl, HH⟩
set_option maxRecDepth 100000 in
set_option maxHeartbeats 1000000 in
theorem radd_bad {B : Nat} {w : World} {x : Nat} {S : Mem} {G : Nat → Prop} (r : Rx B w x S G) {b : Nat} (i : Int) (hw : Mm.wrong S b i ≠ 0) (hf : S.faults ≤ 1000000000000) (y : Int) :
    Calls Try.prog 34 #[.pointer (some ⟨x, 0, none⟩), .int .u64 (b : Int), .int .i64 i, .int .u64 y] w (RTurns (we 0 (Mm.wrong S b i)) B x S.fault G w) := by
  have KL := Lib.hid (rload_bad r i hw hf)
  have h0 : (Mm.wrong S b i == 0) = false := by simpa using hw
  clear r hw
  generalize Mm.wrong S b i = c at *
  unfold we at KL
  go_enter Try.func34, Try.ntmps34
  go_wp2_with (go_at_call 31; refine KL.out.mono ?_; rintro e w' ⟨rfl, HH⟩)
  go_ret2
  exact ⟨rfl, HH⟩
set_option maxRecDepth 100000 in
set_option maxHeartbeats 1000000 in
theorem rcas_no {B : Nat} {w : World} {x : Nat} {S : Mem} {G : Nat → Prop} (r : Rx B w x S G) {b : Nat} {ws : List Int} (hg : Mm.get S.L b = some ws) (i : Nat) {y0 : Int} (hy : ws[i]? = some y0) (o y : Int) (ho : y0 ≠ o) :
    Calls Try.prog 33 #[.pointer (some ⟨x, 0, none⟩), .int .u64 (b : Int), .int .i64 (i : Int), .int .u64 o, .int .u64 y] w (Gives (we y0 0) w) := by
  have KL := Lib.hid (rload_ok r hg i hy)
  have he : (y0 == o) = false := by simpa using ho
  clear r hg hy ho
  unfold we at KL
  go_enter Try.func33, Try.ntmps33
  go_wp2_with (go_at_call 31; refine KL.out.mono ?_; rintro e w' ⟨rfl, HH⟩)
  go_ret2
  exact ⟨rfl, HH⟩
set_option maxRecDepth 100000 in
set_option maxHeartbeats 1000000 in
theorem rcas_yes {B : Nat} {w : World} {x : Nat} {S : Mem} {G : Nat → Prop} (r : Rx B w x S G) {b : Nat} {ws : List Int} (hg : Mm.get S.L b = some ws) (i : Nat) {y0 : Int} (hy : ws[i]? = some y0) (y : Int) :
    Calls Try.prog 33 #[.pointer (some ⟨x, 0, none⟩), .int .u64 (b : Int), .int .i64 (i : Int), .int .u64 y0, .int .u64 y] w (RTurns (we y0 0) B x (S.put b i y) G w) := by
  have KL := Lib.hid (rload_ok r hg i hy)
  have KS := Lib.hid fun (w1 : World) (hb : Below w.heap.size w w1) => rstore_ok (r.below hb (Nat.le_refl _)) hg i (List.getElem?_eq_some_iff.1 hy).1 y
  clear r hg hy
  unfold we at KL
  go_enter Try.func33, Try.ntmps33
  go_wp2_with fail
  with_reducible refine KL.out.mono ?_
  rintro e w1 ⟨rfl, hb⟩
  have HB := Lib.hid hb; clear hb
  go_wp2_with fail
  with_reducible refine (KS.out w1 HB.out).mono ?_
  rintro e w2 ⟨rfl, G', hr, ht⟩
  have HR := Lib.hid hr; clear hr
  have HT := Lib.hid ht; clear ht
  go_wp2_with fail
  go_ret2
  exact ⟨rfl, G', HR.out, (Tn.of_below HB.out).trans HT.out⟩
set_option maxRecDepth 100000 in
set_option maxHeartbeats 1000000 in
theorem radd_ok {B : Nat} {w : World} {x : Nat} {S : Mem} {G : Nat → Prop} (r : Rx B w x S G) {b : Nat} {ws : List Int} (hg : Mm.get S.L b = some ws) (i : Nat) {y0 : Int} (hy : ws[i]? = some y0) (y : Int) :
    Calls Try.prog 34 #[.pointer (some ⟨x, 0, none⟩), .int .u64 (b : Int), .int .i64 (i : Int), .int .u64 y] w (RTurns (we y0 0) B x (S.put b i (IntKind.u64.wrap (y0 + y))) G w) := by
  have KL := Lib.hid (rload_ok r hg i hy)
  have KS := Lib.hid fun (w1 : World) (hb : Below w.heap.size w w1) => rstore_ok (r.below hb (Nat.le_refl _)) hg i (List.getElem?_eq_some_iff.1 hy).1 (IntKind.u64.wrap (y0 + y))
  clear r hg hy
  unfold we at KL
  go_enter Try.func34, Try.ntmps34
  go_wp2_with fail
  with_reducible refine KL.out.mono ?_
  rintro e w1 ⟨rfl, hb⟩
  have HB := Lib.hid hb; clear hb
  go_wp2_with fail
  with_reducible refine (KS.out w1 HB.out).mono ?_
  rintro e w2 ⟨rfl, G', hr, ht⟩
  have HR := Lib.hid hr; clear hr
  have HT := Lib.hid ht; clear ht
  go_wp2_with fail
  go_ret2
  exact ⟨rfl, G', HR.out, (Tn.of_below HB.out).trans HT.out⟩
end Go.Proofs.Ythldjdkjgiebaaa
