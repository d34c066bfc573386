/-
  Several texts in one: The walks of fault, reach, Load, Store, Cas, Add, Free, Size, Used, Faults; The walks of Take: what was answered is kept, and the next act is told. By an AI agent.
-/
import Derived.Test.YtknefjigdlbacaaGreatDoorSkGAF
import Derived.ScopeJumps
set_option linter.unusedSimpArgs false
namespace Go.Proofs.YtknefjigdlbacaaGreatDoor
open Go.RowKit Go.Maps
open Mm (Mem Blk)
theorem heap_setc {w : World} {p : Nat} {c : Array Value} {t : TypeId} {z : Nat × Nat} (h : w.heap[p]? = some (.cells c t z)) (i : Nat) (u : Value) : (w.setCell ⟨p, i, none⟩ u).heap[p]? = some (.cells (c.setIfInBounds i u) t z) := by
  obtain ⟨hlt, hk⟩ := Array.getElem?_eq_some_iff.1 h
  show (w.heap.modify p _)[p]? = _
  rw [Array.getElem?_eq_getElem (by rw [Array.size_modify]; exact hlt), Array.getElem_modify_self, hk]
  rfl
section
variable {B : Nat} {w : World} {p m : Nat} {g : Nat → Nat} {S : Mem} (h : Ar B w p m g S)
include h
theorem Ar.c0 : w.cell? ⟨p, 0, none⟩ = some (.int .i64 (S.room : Int)) := by simp [World.cell?, h.own]
theorem Ar.c1 : w.cell? ⟨p, 1, none⟩ = some (.int .i64 (Mm.used S.L : Int)) := by simp [World.cell?, h.own]
theorem Ar.c2 : w.cell? ⟨p, 2, none⟩ = some (.int .u64 (S.last : Int)) := by simp [World.cell?, h.own]
theorem Ar.c3 : w.cell? ⟨p, 3, none⟩ = some (.int .i64 (S.faults : Int)) := by simp [World.cell?, h.own]
theorem Ar.c4 : w.cell? ⟨p, 4, none⟩ = some (.map (some m)) := by simp [World.cell?, h.own]
theorem Ar.fz (i : Nat) : w.frozen? ⟨p, i, none⟩ = false := by simp [World.frozen?, h.own]
theorem Ar.pm : p ≠ m := fun e => by
  obtain ⟨n, D, _, ⟨es, c, hb, _⟩, _⟩ := h.map
  rw [← e, h.own] at hb
  cases hb
theorem Ar.pg : ∀ b ∈ S.L, g b.1 ≠ p := fun b hb e => by
  obtain ⟨tl, this⟩ := (h.row b hb).2
  rw [e, h.own] at this
  simp at this
theorem Ar.mg : ∀ b ∈ S.L, g b.1 ≠ m := fun b hb e => by
  obtain ⟨tl, h1⟩ := (h.row b hb).2
  obtain ⟨n, D, _, ⟨es, c, hb, _⟩, _⟩ := h.map
  rw [e, hb] at h1
  cases h1
theorem Ar.look {b : Nat} (hb : b < 18446744073709551616) {ws : List Int} (hg : Mm.get S.L b = some ws) :
    ∃ c, (Instr.lookup 110 (.map (some m)) (.int .u64 (b : Int)) true).run Tryz.prog w = .ok (.tuple #[sv (g b) ws.length c, .bool true]) w ∧
    (Instr.lookup 110 (.map (some m)) (.int .u64 (b : Int)) false).run Tryz.prog w = .ok (sv (g b) ws.length c) w := by
  obtain ⟨n, D, _, ho, hh⟩ := h.map
  obtain ⟨c, hat⟩ := hh.at_ b ws hg
  refine ⟨c, ?_, ?_⟩
  · obtain ⟨v, ps, hrun, hr⟩ := ho.look_ok law Tryz.underlying110 (zeroS w) (zd := .held (.slice none 0 0)) (zp := []) rfl (key_u64 hb)
    rw [hat] at hr
    rw [hh.has, hg] at hrun
    cases hr
    exact hrun
  · obtain ⟨v, ps, hrun, hr⟩ := ho.lookup law Tryz.underlying110 (zeroS w) (zd := .held (.slice none 0 0)) (zp := []) rfl (key_u64 hb)
    rw [hat] at hr
    cases hr
    exact hrun
theorem Ar.lookn {b : Nat} (hb : b < 18446744073709551616) (hg : Mm.get S.L b = none) :
    (Instr.lookup 110 (.map (some m)) (.int .u64 (b : Int)) true).run Tryz.prog w = .ok (.tuple #[.slice none 0 0, .bool false]) w ∧
    (Instr.lookup 110 (.map (some m)) (.int .u64 (b : Int)) false).run Tryz.prog w = .ok (.slice none 0 0) w := by
  obtain ⟨n, D, _, ho, hh⟩ := h.map
  have hn : Maps.has D (ky b) = false := by rw [hh.has, hg]; rfl
  have hat := Maps.atKey_of_not_has hn (.held (.slice none 0 0))
  refine ⟨?_, ?_⟩
  · obtain ⟨v, ps, hrun, hr⟩ := ho.look_ok law Tryz.underlying110 (zeroS w) (zd := .held (.slice none 0 0)) (zp := []) rfl (key_u64 hb)
    rw [hat] at hr
    rw [hn] at hrun
    cases hr
    exact hrun
  · obtain ⟨v, ps, hrun, hr⟩ := ho.lookup law Tryz.underlying110 (zeroS w) (zd := .held (.slice none 0 0)) (zp := []) rfl (key_u64 hb)
    rw [hat] at hr
    cases hr
    exact hrun
theorem Ar.made : Calls Tryz.prog 68 #[.pointer (some ⟨p, 0, none⟩)] w (Same (.bool true) w) :=
  made_any p _ true (by have := h.good.r1; simp; omega) w h.c0
/-- One more fault. -/
theorem Ar.faulted : Ar B (w.setCell ⟨p, 3, none⟩ (.int .i64 ((S.faults : Int) + 1))) p m g S.fault ∧ Tn (Fp p m g S) (Fp p m g S.fault) w (w.setCell ⟨p, 3, none⟩ (.int .i64 ((S.faults : Int) + 1))) := by
  refine ⟨⟨h.pB, h.mB, heap_setc h.own 3 _, ?_, fun b hb => ⟨(h.row b hb).1, (h.row b hb).2.keep (Below.heap_setCell _ _ _ _ (h.pg b hb))⟩, h.inj, h.good.fault⟩, ⟨rfl, rfl, rfl, by simp [World.setCell], fun k hk hF => Below.heap_setCell _ _ _ _ (fun e => hF (.inl e)), fun k hk => .inl hk⟩⟩
  obtain ⟨n, D, hn, ho, hh⟩ := h.map
  exact ⟨n, D, hn, map_keep ho (Below.heap_setCell _ _ _ _ (fun e => h.pm e.symm)), hh⟩
end
/-- A word is put. -/
theorem wd_set (ws : List Int) (i : Nat) (v : Int) : (wd ws).setIfInBounds i (.int .u64 v) = wd (ws.set i v) := by
  unfold wd
  rw [List.setIfInBounds_toArray, List.map_set]
theorem Wd.set {w : World} {k : Nat} {ws : List Int} (h : Wd w k ws) (i : Nat) (v : Int) : Wd (w.setCell ⟨k, i, none⟩ (.int .u64 v)) k (ws.set i v) := by
  obtain ⟨tl, h⟩ := h
  have e := heap_setc h i (.int .u64 v)
  by_cases hi : i < ws.length
  · refine ⟨tl, e.trans ?_⟩
    rw [Array.setIfInBounds_append, if_pos (by simpa [wd] using hi), wd_set]
  · refine ⟨tl.setIfInBounds (i - (wd ws).size) (.int .u64 v), e.trans ?_⟩
    rw [Array.setIfInBounds_append, if_neg (by simpa [wd] using hi), List.set_eq_of_length_le (by omega)]
theorem Ar.stored {B : Nat} {w : World} {p m : Nat} {g : Nat → Nat} {S : Mem} (h : Ar B w p m g S) {b : Nat} {ws : List Int} (hg : Mm.get S.L b = some ws) (i : Nat) (v : Int) :
    Ar B (w.setCell ⟨g b, i, none⟩ (.int .u64 v)) p m g (S.put b i v) ∧ Tn (Fp p m g S) (Fp p m g (S.put b i v)) w (w.setCell ⟨g b, i, none⟩ (.int .u64 v)) := by
  have hm := Mm.get_some_mem hg
  have hmem : ∀ c ∈ Mm.put S.L b i v, ∃ d ∈ S.L, d.1 = c.1 := fun c hc => by
    rcases Mm.mem_put hc with ⟨_, h2⟩ | ⟨h1, ws, h2, _⟩
    · exact ⟨c, h2, rfl⟩
    · exact ⟨_, h2, h1.symm⟩
  refine ⟨⟨h.pB, h.mB, ?_, ?_, fun c hc => ?_, fun c hc d hd e => ?_, h.good.put b i v⟩, ⟨rfl, rfl, rfl, by simp [World.setCell], fun k hk hF => Below.heap_setCell _ _ _ _ (fun e => hF (.inr (.inr ⟨_, hm, e⟩))), fun k hk => .inl ?_⟩⟩
  · rw [Below.heap_setCell _ _ _ _ (fun e => h.pg _ hm e.symm), h.own]
    show _ = some (Obj.cells #[_, Value.int .i64 (Mm.used (Mm.put S.L b i v) : Int), _, _, _] _ _)
    rw [Mm.used_put]
    rfl
  · obtain ⟨n, D, hn, ho, hh⟩ := h.map
    refine ⟨n, D, hn, map_keep ho (Below.heap_setCell _ _ _ _ (fun e => h.mg _ hm e.symm)), fun k => ?_, fun k us hk => ?_⟩
    · rw [hh.has]
      show _ = (Mm.get (Mm.put S.L b i v) k).isSome
      by_cases e : k = b
      · subst e; rw [Mm.get_put_same i v hg, hg]; rfl
      · rw [Mm.get_put_other _ i v e]
    · by_cases e : k = b
      · subst e
        have hk' : Mm.get (Mm.put S.L k i v) k = some us := hk
        rw [Mm.get_put_same i v hg] at hk'
        cases hk'
        rw [List.length_set]
        exact hh.at_ k ws hg
      · have hk' : Mm.get (Mm.put S.L b i v) k = some us := hk
        rw [Mm.get_put_other _ i v e] at hk'
        exact hh.at_ k us hk'
  · rcases Mm.mem_put hc with ⟨h1, h2⟩ | ⟨h1, us, h2, h3⟩
    · exact ⟨(h.row c h2).1, (h.row c h2).2.keep (Below.heap_setCell _ _ _ _ (fun e => h1 (h.inj c h2 _ hm e)))⟩
    · have hr := h.row _ h2
      have e2 := Mm.get_of_mem h.good.up _ h2
      have e3 : us = ws := by simpa [hg] using e2.symm
      subst e3
      rw [h1, h3]
      exact ⟨hr.1, hr.2.set i v⟩
  · obtain ⟨c', hc', e1⟩ := hmem c hc
    obtain ⟨d', hd', e2⟩ := hmem d hd
    rw [← e1, ← e2] at e ⊢
    exact h.inj c' hc' d' hd' e
  · rcases hk with hk | hk | ⟨c, hc, hk⟩
    · exact .inl hk
    · exact .inr (.inl hk)
    · obtain ⟨c', hc', e1⟩ := hmem c hc
      exact .inr (.inr ⟨c', hc', by rw [e1]; exact hk⟩)
set_option maxHeartbeats 1000000 in
theorem fault_any (p : Nat) (f : Nat) (hf : f ≤ 1000000000000) (c : Int) (w : World) (h3 : w.cell? ⟨p, 3, none⟩ = some (.int .i64 (f : Int))) (hz : w.frozen? ⟨p, 3, none⟩ = false) :
    Calls Tryz.prog 145 #[.pointer (some ⟨p, 0, none⟩), .int .i64 c] w fun e w' => e = .returned (.int .i64 c) ∧ w.setCell ⟨p, 3, none⟩ (.int .i64 ((f : Int) + 1)) = w' := by
  go_enter Tryz.func145, Tryz.ntmps145
  go_wp2
  go_ret
  exact ⟨rfl, rfl⟩
set_option maxRecDepth 100000 in
set_option maxHeartbeats 1000000 in
theorem reach_ok {B : Nat} {w : World} {p m : Nat} {g : Nat → Nat} {S : Mem} (h : Ar B w p m g S) {b : Nat} (hb : b < 18446744073709551616) {ws : List Int} (hg : Mm.get S.L b = some ws) (i : Nat) (hi : i < ws.length) :
    ∃ c, Calls Tryz.prog 144 #[.pointer (some ⟨p, 0, none⟩), .int .u64 (b : Int), .int .i64 (i : Int)] w (Same (.tuple #[sv (g b) ws.length c, .int .i64 0]) w) := by
  have HM := Lib.hid h.made
  have c4 := h.c4
  obtain ⟨cp, hl, -⟩ := h.look hb hg
  refine ⟨cp, ?_⟩
  have hd : decide (ws.length ≤ i) = false := by simpa using hi
  have hdZ : decide ((ws.length : Int) ≤ (i : Int)) = false := by simpa using hi
  clear h hg hb
  generalize ws.length = n at *
  unfold sv at *
  go_enter Tryz.func144, Tryz.ntmps144
  go_wp2_with (go_at_call 68; refine HM.out.mono ?_; rintro e w' ⟨rfl, rfl⟩)
  go_ret2
  exact ⟨rfl, rfl⟩
/-- What is wrong is told, and counted. -/
def bad (c : Int) : Value := .tuple #[.slice none 0 0, .int .i64 c]
set_option maxHeartbeats 1000000 in
theorem reach_bad {B : Nat} {w : World} {p m : Nat} {g : Nat → Nat} {S : Mem} (h : Ar B w p m g S) {b : Nat} (hb : b < 18446744073709551616) (i : Int) (hw : Mm.wrong S b i ≠ 0) (hf : S.faults ≤ 1000000000000) :
    Calls Tryz.prog 144 #[.pointer (some ⟨p, 0, none⟩), .int .u64 (b : Int), .int .i64 i] w fun e w' => e = .returned (bad (Mm.wrong S b i)) ∧ w.setCell ⟨p, 3, none⟩ (.int .i64 ((S.faults : Int) + 1)) = w' := by
  have HM := Lib.hid h.made
  have c4 := h.c4
  have HF := Lib.hid fun c => fault_any p S.faults hf c w h.c3 (h.fz 3)
  unfold Mm.wrong at hw ⊢
  cases hg : Mm.get S.L b with
  | none =>
    have hl := (h.lookn hb hg).1
    clear h hg hw hb
    go_enter Tryz.func144, Tryz.ntmps144
    go_wp2_with (first | (go_at_call 68; refine HM.out.mono ?_; rintro e w' ⟨rfl, rfl⟩) | (go_at_call 145; refine (HF.out _).mono ?_; rintro e w' ⟨rfl, rfl⟩) | fail)
    go_ret2
    exact ⟨rfl, rfl⟩
  | some ws =>
    rw [hg] at hw
    obtain ⟨cp, hl, -⟩ := h.look hb hg
    have hlen := Mm.used_len hg
    have := h.good.fits
    have := h.good.r2
    clear h hg hb
    simp only at hw ⊢
    by_cases hc : 0 ≤ i ∧ i < ws.length
    · simp [hc] at hw
    · rw [if_neg hc]
      clear hw
      generalize ws.length = n at *
      unfold sv at *
      by_cases h0 : i < 0
      · clear hc
        go_enter Tryz.func144, Tryz.ntmps144
        go_wp2_with (first | (go_at_call 68; refine HM.out.mono ?_; rintro e w' ⟨rfl, rfl⟩) | (go_at_call 145; refine (HF.out _).mono ?_; rintro e w' ⟨rfl, rfl⟩) | fail)
        go_ret2
        exact ⟨rfl, rfl⟩
      · have h1 : (n : Int) ≤ i := by omega
        clear hc
        go_enter Tryz.func144, Tryz.ntmps144
        go_wp2_with (first | (go_at_call 68; refine HM.out.mono ?_; rintro e w' ⟨rfl, rfl⟩) | (go_at_call 145; refine (HF.out _).mono ?_; rintro e w' ⟨rfl, rfl⟩) | fail)
        go_ret2
        exact ⟨rfl, rfl⟩
/-- The words of a block. -/
theorem Ar.cellb {B : Nat} {w : World} {p m : Nat} {g : Nat → Nat} {S : Mem} (h : Ar B w p m g S) {b : Nat} {ws : List Int} (hg : Mm.get S.L b = some ws) {i : Nat} {x : Int} (hi : ws[i]? = some x) :
    w.cell? ⟨g b, i, none⟩ = some (.int .u64 x) ∧ w.frozen? ⟨g b, i, none⟩ = false := by
  obtain ⟨tl, this⟩ := (h.row _ (Mm.get_some_mem hg)).2
  simp only at this
  have hl := (List.getElem?_eq_some_iff.1 hi).1
  have hc : (wd ws ++ tl)[i]? = some (.int .u64 x) := by
    rw [Array.getElem?_append_left (by simpa [wd] using hl)]
    simp [wd, hi]
  simp [World.cell?, World.frozen?, this, hc]
/-- Two answers: a word, and an error. -/
def we (x c : Int) : Value := .tuple #[.int .u64 x, .int .i64 c]
set_option maxHeartbeats 1000000 in
theorem load_ok {B : Nat} {w : World} {p : Nat} {S : Mem} {F : Nat → Prop} (h : Ax B w p S F) {b : Nat} (hb : b < 18446744073709551616) {ws : List Int} (hg : Mm.get S.L b = some ws) (i : Nat) {x : Int} (hx : ws[i]? = some x) :
    Calls Tryz.prog 113 #[.pointer (some ⟨p, 0, none⟩), .int .u64 (b : Int), .int .i64 (i : Int)] w (Same (we x 0) w) := by
  obtain ⟨m, g, h, rfl⟩ := h
  obtain ⟨hi, -⟩ := List.getElem?_eq_some_iff.1 hx
  obtain ⟨cp, hR⟩ := reach_ok h hb hg i hi
  have HR := Lib.hid hR; clear hR
  obtain ⟨cb, -⟩ := h.cellb hg hx
  have hlen := Mm.used_len hg
  have := h.good.fits
  have := h.good.r2
  clear h hg hb hx
  generalize ws.length = n at *
  unfold sv at *
  have hiZ : (i : Int) < (n : Int) := by omega
  go_enter Tryz.func113, Tryz.ntmps113
  go_wp2_with (go_at_call 144; refine HR.out.mono ?_; rintro e w' ⟨rfl, rfl⟩)
  go_ret2
  exact ⟨rfl, rfl⟩
theorem wrong_cases {S : Mem} {b : Nat} {i : Int} (h : Mm.wrong S b i ≠ 0) : Mm.wrong S b i = 13 ∨ Mm.wrong S b i = 14 := by
  unfold Mm.wrong at *
  split
  · exact .inl rfl
  · rename_i ws e
    rw [e] at h
    simp only at h
    split
    · rename_i hc; simp [hc] at h
    · exact .inr rfl
set_option maxHeartbeats 1000000 in
theorem load_bad {B : Nat} {w : World} {p : Nat} {S : Mem} {F : Nat → Prop} (h : Ax B w p S F) {b : Nat} (hb : b < 18446744073709551616) (i : Int) (hw : Mm.wrong S b i ≠ 0) (hf : S.faults ≤ 1000000000000) :
    Calls Tryz.prog 113 #[.pointer (some ⟨p, 0, none⟩), .int .u64 (b : Int), .int .i64 i] w (Turns (we 0 (Mm.wrong S b i)) B p S.fault F w) := by
  obtain ⟨m, g, h, rfl⟩ := h
  have HR := Lib.hid (reach_bad h hb i hw hf)
  have HF := Lib.hid h.faulted
  have h0 : (Mm.wrong S b i != 0) = true := by simpa using hw
  clear h hb hw
  generalize Mm.wrong S b i = c at *
  unfold bad at HR
  go_enter Tryz.func113, Tryz.ntmps113
  go_wp2_with (go_at_call 144; refine HR.out.mono ?_; rintro e w' ⟨rfl, rfl⟩)
  go_ret2
  exact ⟨rfl, _, ⟨_, _, HF.out.1, rfl⟩, HF.out.2⟩
set_option maxHeartbeats 1000000 in
theorem store_ok {B : Nat} {w : World} {p : Nat} {S : Mem} {F : Nat → Prop} (h : Ax B w p S F) {b : Nat} (hb : b < 18446744073709551616) {ws : List Int} (hg : Mm.get S.L b = some ws) (i : Nat) (hi : i < ws.length) (v : Int) :
    Calls Tryz.prog 114 #[.pointer (some ⟨p, 0, none⟩), .int .u64 (b : Int), .int .i64 (i : Int), .int .u64 v] w (Turns (.int .i64 0) B p (S.put b i v) F w) := by
  obtain ⟨m, g, h, rfl⟩ := h
  obtain ⟨cp, hR⟩ := reach_ok h hb hg i hi
  have HR := Lib.hid hR; clear hR
  obtain ⟨cb, fb⟩ := h.cellb hg (List.getElem?_eq_getElem hi)
  have HF := Lib.hid (h.stored hg i v)
  have hlen := Mm.used_len hg
  have := h.good.fits
  have := h.good.r2
  clear h hg hb
  generalize ws[i] = x at *
  generalize ws.length = n at *
  unfold sv at *
  have hiZ : (i : Int) < (n : Int) := by omega
  go_enter Tryz.func114, Tryz.ntmps114
  go_wp2_with (go_at_call 144; refine HR.out.mono ?_; rintro e w' ⟨rfl, rfl⟩)
  go_ret
  exact ⟨rfl, _, ⟨_, _, HF.out.1, rfl⟩, HF.out.2⟩
set_option maxHeartbeats 1000000 in
theorem store_bad {B : Nat} {w : World} {p : Nat} {S : Mem} {F : Nat → Prop} (h : Ax B w p S F) {b : Nat} (hb : b < 18446744073709551616) (i : Int) (hw : Mm.wrong S b i ≠ 0) (hf : S.faults ≤ 1000000000000) (v : Int) :
    Calls Tryz.prog 114 #[.pointer (some ⟨p, 0, none⟩), .int .u64 (b : Int), .int .i64 i, .int .u64 v] w (Turns (.int .i64 (Mm.wrong S b i)) B p S.fault F w) := by
  obtain ⟨m, g, h, rfl⟩ := h
  have HR := Lib.hid (reach_bad h hb i hw hf)
  have HF := Lib.hid h.faulted
  have h0 : (Mm.wrong S b i != 0) = true := by simpa using hw
  clear h hb hw
  generalize Mm.wrong S b i = c at *
  unfold bad at HR
  go_enter Tryz.func114, Tryz.ntmps114
  go_wp2_with (go_at_call 144; refine HR.out.mono ?_; rintro e w' ⟨rfl, rfl⟩)
  go_ret
  exact ⟨rfl, _, ⟨_, _, HF.out.1, rfl⟩, HF.out.2⟩
end Go.Proofs.YtknefjigdlbacaaGreatDoor
set_option linter.unusedSimpArgs false
set_option linter.unusedVariables false
namespace Go.Proofs.YtknefjigdlbacaaGreatDoor
open Go.RowKit Go.Maps
open Ac (A)
/-- A scope with jumps ahead: at a jump the run goes on from its label, at most n times. -/
def Hop (P : Program) (c : Code) (Q : Exit → Act → World → Prop) : Nat → Exit → Act → World → Prop
  | 0, .goto _, _, _ => False
  | n + 1, .goto l, a, w => ∃ rest, findLabel c l = some rest ∧ rest.wp P (Hop P c Q n) a w
  | _, e, a, w => Q e a w
theorem Hop.ret {P : Program} {c : Code} {Q : Exit → Act → World → Prop} {n : Nat} {a : Act} {w : World} : Hop P c Q n .ret a w = Q .ret a w := by cases n <;> rfl
theorem Hop.normal {P : Program} {c : Code} {Q : Exit → Act → World → Prop} {n : Nat} {a : Act} {w : World} : Hop P c Q n .normal a w = Q .normal a w := by cases n <;> rfl
theorem Hop.go {P : Program} {c rest : Code} {Q : Exit → Act → World → Prop} {K : Act → World → Prop} {n l : Nat} {a : Act} {w : World} (h : findLabel c l = some rest) (h2 : rest.wp P (Hop P c Q n) a w) : Exit.then K (Hop P c Q (n + 1)) (.goto l) a w := ⟨rest, h, h2⟩
theorem Hop.goto {P : Program} {c : Code} {Q : Exit → Act → World → Prop} {n l : Nat} {a : Act} {w : World} : Hop P c Q (n + 1) (.goto l) a w = ∃ rest, findLabel c l = some rest ∧ rest.wp P (Hop P c Q n) a w := rfl
theorem scope_hops {P : Program} {a : Act} {w : World} {Q : Exit → Act → World → Prop} {c : Code} (n : Nat) (h : c.wp P (Hop P c Q n) a w) : (Code.scope c).wp P Q a w := by
  intro b k cs
  have key : ∀ n e a₁ w₁, Hop P c Q n e a₁ w₁ → Arrives P (lone (b.at a (.code c :: .inScope c :: k)) cs w) b (.inScope c :: k) cs e a₁ w₁ → ∃ e a' w', Q e a' w' ∧ Arrives P (lone (b.at a (.code c :: .inScope c :: k)) cs w) b k cs e a' w' := by
    intro n
    induction n with
    | zero =>
      intro e a₁ w₁ hq harr
      cases e with
      | normal => exact ⟨.normal, a₁, w₁, hq, Steps.trans harr (.one step_inScope)⟩
      | exit id => exact ⟨.exit id, a₁, w₁, hq, fun k' hk => harr k' (by simp [exitTo, hk])⟩
      | goto l' => exact hq.elim
      | ret => exact ⟨_, a₁, w₁, hq, harr⟩
      | panic ch => exact ⟨_, a₁, w₁, hq, harr⟩
      | outgrown => exact ⟨_, a₁, w₁, hq, harr⟩
    | succ n ih =>
      intro e a₁ w₁ hq harr
      cases e with
      | normal => exact ⟨.normal, a₁, w₁, hq, Steps.trans harr (.one step_inScope)⟩
      | exit id => exact ⟨.exit id, a₁, w₁, hq, fun k' hk => harr k' (by simp [exitTo, hk])⟩
      | goto l' =>
        obtain ⟨rest, hf, hr⟩ := hq
        have hg : gotoIn l' (.inScope c :: k) = some (.code rest :: .inScope c :: k) := by simp [gotoIn, hf]
        obtain ⟨e₂, a₂, w₂, hq₂, harr₂⟩ := hr b (.inScope c :: k) cs
        exact ih e₂ a₂ w₂ hq₂ (.of_steps (harr _ hg) harr₂)
      | ret => exact ⟨_, a₁, w₁, hq, harr⟩
      | panic ch => exact ⟨_, a₁, w₁, hq, harr⟩
      | outgrown => exact ⟨_, a₁, w₁, hq, harr⟩
  obtain ⟨e, a₁, w₁, hq, harr⟩ := h b (.inScope c :: k) cs
  obtain ⟨e₂, a₂, w₂, hq₂, harr₂⟩ := key n e a₁ w₁ hq harr
  exact ⟨e₂, a₂, w₂, hq₂, .of_steps (.one step_scope) harr₂⟩
/-- Nothing but one block changes. -/
abbrev Chg (q : Nat) (w w' : World) : Prop := Tn (fun k => k = q) (fun k => k = q) w w'
theorem Chg.set {q : Nat} {w w' : World} (h : Chg q w w') (i : Nat) (v : Value) (hq : q < w'.heap.size) : Chg q w (w'.setCell ⟨q, i, none⟩ v) :=
  ⟨h.os, h.tape, h.output, by have := h.size; simp [World.setCell] at this ⊢; omega, fun k hk hF => (Below.heap_setCell _ _ _ _ hF).trans (h.block k hk hF), h.foot⟩
/-- The next act, stored. -/
abbrev put5 (w : World) (q : Nat) (x : A) : World := ((((w.setCell ⟨q, 5, none⟩ (.int .i64 x.k)).setCell ⟨q, 6, none⟩ (.int .u64 (x.b : Int))).setCell ⟨q, 7, none⟩ (.int .i64 x.c)).setCell ⟨q, 8, none⟩ (.int .u64 (x.o : Int))).setCell ⟨q, 9, none⟩ (.int .u64 (x.n : Int))
theorem Mk.put5 {w : World} {q n c b : Nat} {f x : A} {ad : Option Addr} (h : Mk w q f x ad n c b) (y : A) : Mk (put5 w q y) q f y ad n c b := by
  unfold Mk at h ⊢
  rw [heap_setc (heap_setc (heap_setc (heap_setc (heap_setc h _ _) _ _) _ _) _ _) _ _]
  simp
theorem Mk.setb {w : World} {q n c b : Nat} {f x : A} {ad : Option Addr} (h : Mk w q f x ad n c b) (v : Nat) : Mk (w.setCell ⟨q, 11, none⟩ (.int .u64 (v : Int))) q f x ad n c v := by
  unfold Mk at h ⊢
  rw [heap_setc h _ _]
  simp
theorem Chg.put5 {q : Nat} {w w' : World} (h : Chg q w w') (x : A) (hq : q < w'.heap.size) : Chg q w (put5 w' q x) := by
  refine ((((h.set 5 _ hq).set 6 _ ?_).set 7 _ ?_).set 8 _ ?_).set 9 _ ?_ <;> simpa [World.setCell] using hq
theorem mtake_nil (v : Nat) (w : World) : Calls Tryz.prog 187 #[.pointer none, .int .u64 (v : Int)] w (Gives (.tuple #[]) w) := by
  have K := Lib.hid mact_nil
  go_enter Tryz.func187, Tryz.ntmps187
  refine scope_hops 3 ?_
  go_wp2_with fail
  with_reducible refine (K.out _).mono ?_
  rintro e w1 ⟨rfl, hb⟩
  have HB := Lib.hid hb; clear hb
  go_wp2
  rw [Hop.ret]
  go_end0
  exact ⟨rfl, HB.out.trans (((Below.refl _ w1).alloc (Nat.le_refl _) _).mono HB.out.size)⟩
set_option maxRecDepth 100000 in
set_option maxHeartbeats 4000000 in
theorem mtake_none (w : World) (q n c b v : Nat) (f : A) (ad : Option Addr) (h : Mk w q f ⟨0, 0, 0, 0, 0⟩ ad n c b) : Calls Tryz.prog 187 #[.pointer (some ⟨q, 0, none⟩), .int .u64 (v : Int)] w (Gives (.tuple #[]) w) := by
  have K := Lib.hid (mact_any w q n c b f _ ad h)
  clear h
  go_enter Tryz.func187, Tryz.ntmps187
  refine scope_hops 3 ?_
  go_wp2_with fail
  with_reducible refine K.out.mono ?_
  rintro e w1 ⟨rfl, hb⟩
  have HB := Lib.hid hb; clear hb
  rw [show (!isz ⟨0, 0, 0, 0, 0⟩) = false from rfl]
  go_wp2
  rw [Hop.ret]
  go_end0
  exact ⟨rfl, HB.out.trans (((Below.refl _ w1).alloc (Nat.le_refl _) _).mono HB.out.size)⟩
end Go.Proofs.YtknefjigdlbacaaGreatDoor
