/-
  Several texts in one: Two acts, compared; a maker as a block; The walks of fault, reach, Load, Store, Cas, Add, Free, Size, Used, Faults. By an AI agent.
-/
import Derived.Test.YtknefjigdlbacaaGreatDoorSkKAF
import Derived.BigQuiet
set_option linter.unusedSimpArgs false
set_option linter.unusedVariables false
namespace Go.Proofs.YtknefjigdlbacaaGreatDoor
open Go.RowKit
open Ac (A)
/-- Are two acts one? -/
def eqB (a0 a1 a2 a3 a4 b0 b1 b2 b3 b4 : Int) : Bool := a0 == b0 && (a1 == b1 && (a2 == b2 && (a3 == b3 && a4 == b4)))
set_option maxRecDepth 100000 in
theorem flds : (Tryz.prog.fieldsOf 35).toList.map (fun f => (f.name, f.type, f.offset)) = [("Kind", 3, 0), ("Block", 22, 1), ("Cell", 3, 2), ("Old", 22, 3), ("New", 22, 4)] := by kernel_rfl
set_option maxRecDepth 100000 in
set_option maxHeartbeats 1000000 in
theorem eq_act (a0 a1 a2 a3 a4 b0 b1 b2 b3 b4 : Int) : ∀ w : World, (binOp .eql 35 (.agg #[.int .i64 a0, .int .u64 a1, .int .i64 a2, .int .u64 a3, .int .u64 a4]) (.agg #[.int .i64 b0, .int .u64 b1, .int .i64 b2, .int .u64 b3, .int .u64 b4])).run Tryz.prog w = .ok (.bool (eqB a0 a1 a2 a3 a4 b0 b1 b2 b3 b4)) w := fun w => by
  rw [run_eql_struct, run_equalIn_agg _ _ _ _ _ (by kernel_rfl) (by kernel_rfl)]
  rcases hf : (Tryz.prog.fieldsOf 35).toList with _ | ⟨f0, _ | ⟨f1, _ | ⟨f2, _ | ⟨f3, _ | ⟨f4, _ | ⟨f5, r⟩⟩⟩⟩⟩⟩
  all_goals (have hfl := flds; rw [hf] at hfl; simp at hfl)
  obtain ⟨⟨n0, t0, o0⟩, ⟨n1, t1, o1⟩, ⟨n2, t2, o2⟩, ⟨n3, t3, o3⟩, n4, t4, o4⟩ := hfl
  simp only [Op.eqFields, n0, t0, o0, n1, t1, o1, n2, t2, o2, n3, t3, o3, n4, t4, o4]
  unfold eqB
  by_cases h0 : a0 = b0 <;> by_cases h1 : a1 = b1 <;> by_cases h2 : a2 = b2 <;> by_cases h3 : a3 = b3 <;> by_cases h4 : a4 = b4 <;>
    simp [go_sem, Tryz.underlying3, Tryz.underlying22, Tryz.isAgg3, Tryz.isAgg22, h0, h1, h2, h3, h4]
theorem ne_act (a0 a1 a2 a3 a4 b0 b1 b2 b3 b4 : Int) : ∀ w : World, (binOp .neq 35 (.agg #[.int .i64 a0, .int .u64 a1, .int .i64 a2, .int .u64 a3, .int .u64 a4]) (.agg #[.int .i64 b0, .int .u64 b1, .int .i64 b2, .int .u64 b3, .int .u64 b4])).run Tryz.prog w = .ok (.bool (!eqB a0 a1 a2 a3 a4 b0 b1 b2 b3 b4)) w := fun w => by
  have h := eq_act a0 a1 a2 a3 a4 b0 b1 b2 b3 b4 w
  rw [run_eql_struct] at h
  rw [run_neq_struct]
  revert h
  cases (Op.equalIn 10000 35 (.agg #[.int .i64 a0, .int .u64 a1, .int .i64 a2, .int .u64 a3, .int .u64 a4]) (.agg #[.int .i64 b0, .int .u64 b1, .int .i64 b2, .int .u64 b3, .int .u64 b4])).run Tryz.prog w with
  | ok v w' => cases v <;> simp_all [Result.andThen]
  | _ => simp [Result.andThen]
/-- A maker as a block. -/
def Mk (w : World) (q : Nat) (f x : A) (ad : Option Addr) (n c b : Nat) : Prop := w.heap[q]? = some (.cells #[.int .i64 f.k, .int .u64 f.b, .int .i64 f.c, .int .u64 f.o, .int .u64 f.n, .int .i64 x.k, .int .u64 x.b, .int .i64 x.c, .int .u64 x.o, .int .u64 x.n, .slice ad n c, .int .u64 b] 153 (0, 0))
section
variable {w w' : World} {q n c b : Nat} {f x : A} {ad : Option Addr}
theorem Mk.lt (h : Mk w q f x ad n c b) : q < w.heap.size := (Array.getElem?_eq_some_iff.1 h).1
theorem Mk.keep (h : Mk w q f x ad n c b) (e : w'.heap[q]? = w.heap[q]?) : Mk w' q f x ad n c b := e.trans h
theorem Mk.below (h : Mk w q f x ad n c b) (hb : Below w.heap.size w w') : Mk w' q f x ad n c b := h.keep (hb.block q h.lt)
theorem Mk.fz (h : Mk w q f x ad n c b) (i : Nat) : w.frozen? ⟨q, i, none⟩ = false := by simp [World.frozen?, show w.heap[q]? = _ from h]
theorem Mk.c0 (h : Mk w q f x ad n c b) : w.cell? ⟨q, 0, none⟩ = some (.int .i64 f.k) := by simp [World.cell?, show w.heap[q]? = _ from h]
theorem Mk.c1 (h : Mk w q f x ad n c b) : w.cell? ⟨q, 1, none⟩ = some (.int .u64 (f.b : Int)) := by simp [World.cell?, show w.heap[q]? = _ from h]
theorem Mk.c2 (h : Mk w q f x ad n c b) : w.cell? ⟨q, 2, none⟩ = some (.int .i64 f.c) := by simp [World.cell?, show w.heap[q]? = _ from h]
theorem Mk.c3 (h : Mk w q f x ad n c b) : w.cell? ⟨q, 3, none⟩ = some (.int .u64 (f.o : Int)) := by simp [World.cell?, show w.heap[q]? = _ from h]
theorem Mk.c4 (h : Mk w q f x ad n c b) : w.cell? ⟨q, 4, none⟩ = some (.int .u64 (f.n : Int)) := by simp [World.cell?, show w.heap[q]? = _ from h]
theorem Mk.c5 (h : Mk w q f x ad n c b) : w.cell? ⟨q, 5, none⟩ = some (.int .i64 x.k) := by simp [World.cell?, show w.heap[q]? = _ from h]
theorem Mk.c6 (h : Mk w q f x ad n c b) : w.cell? ⟨q, 6, none⟩ = some (.int .u64 (x.b : Int)) := by simp [World.cell?, show w.heap[q]? = _ from h]
theorem Mk.c7 (h : Mk w q f x ad n c b) : w.cell? ⟨q, 7, none⟩ = some (.int .i64 x.c) := by simp [World.cell?, show w.heap[q]? = _ from h]
theorem Mk.c8 (h : Mk w q f x ad n c b) : w.cell? ⟨q, 8, none⟩ = some (.int .u64 (x.o : Int)) := by simp [World.cell?, show w.heap[q]? = _ from h]
theorem Mk.c9 (h : Mk w q f x ad n c b) : w.cell? ⟨q, 9, none⟩ = some (.int .u64 (x.n : Int)) := by simp [World.cell?, show w.heap[q]? = _ from h]
theorem Mk.c10 (h : Mk w q f x ad n c b) : w.cell? ⟨q, 10, none⟩ = some (.slice ad n c) := by simp [World.cell?, show w.heap[q]? = _ from h]
theorem Mk.c11 (h : Mk w q f x ad n c b) : w.cell? ⟨q, 11, none⟩ = some (.int .u64 (b : Int)) := by simp [World.cell?, show w.heap[q]? = _ from h]
end
/-- Is an act none? -/
def isz (x : A) : Bool := eqB x.k x.b x.c x.o x.n 0 0 0 0 0
theorem mact_nil (w : World) : Calls Tryz.prog 186 #[.pointer none] w (Gives (.tuple #[av ⟨0, 0, 0, 0, 0⟩, .bool false]) w) := by
  go_enter Tryz.func186, Tryz.ntmps186
  go_wp2
  exact bodyPost_ret (v := .tuple #[av ⟨0, 0, 0, 0, 0⟩, .bool false]) (by simp [results, Tryz.results186, go_sem]) rfl ⟨rfl, (Below.refl _ w).alloc (Nat.le_refl _) _⟩
set_option maxRecDepth 100000 in
set_option maxHeartbeats 4000000 in
theorem mact_any (w : World) (q n c b : Nat) (f x : A) (ad : Option Addr) (h : Mk w q f x ad n c b) : Calls Tryz.prog 186 #[.pointer (some ⟨q, 0, none⟩)] w (Gives (.tuple #[av x, .bool (!isz x)]) w) := by
  have hb : ∀ o, Below w.heap.size w (w.alloc o) := fun o => (Below.refl _ w).alloc (Nat.le_refl _) _
  have c5 := fun o => (h.below (hb o)).c5
  have c6 := fun o => (h.below (hb o)).c6
  have c7 := fun o => (h.below (hb o)).c7
  have c8 := fun o => (h.below (hb o)).c8
  have c9 := fun o => (h.below (hb o)).c9
  obtain ⟨xk, xb, xc, xo, xn⟩ := x
  unfold isz
  dsimp only at c5 c6 c7 c8 c9 ⊢
  have q1 := ne_act xk xb xc xo xn 0 0 0 0 0
  generalize (!eqB xk xb xc xo xn 0 0 0 0 0) = t at *
  have HB := Lib.hid hb; clear hb
  clear h
  go_enter Tryz.func186, Tryz.ntmps186
  go_wp2
  go_region
  all_goals go_wp2
  all_goals exact bodyPost_ret (v := .tuple #[av ⟨xk, xb, xc, xo, xn⟩, .bool t]) (by simp [results, Tryz.results186, go_sem]) rfl ⟨rfl, (((Below.refl _ w).alloc (Nat.le_refl _) _).drew)⟩
theorem mres_nil (w : World) : Calls Tryz.prog 63 #[.pointer none] w (Same (.tuple #[.int .u64 0, .bool false]) w) := by
  go_enter Tryz.func63, Tryz.ntmps63
  go_wp2
  go_ret2
  exact ⟨rfl, rfl⟩
set_option maxRecDepth 100000 in
set_option maxHeartbeats 4000000 in
/-- Result: the block's number, once no act comes any more. -/
theorem mres_any (w : World) (q n c b : Nat) (f x : A) (ad : Option Addr) (h : Mk w q f x ad n c b) : Calls Tryz.prog 63 #[.pointer (some ⟨q, 0, none⟩)] w (Same (if !isz f && isz x then .tuple #[.int .u64 b, .bool true] else .tuple #[.int .u64 0, .bool false]) w) := by
  have c0 := h.c0
  have c1 := h.c1
  have c2 := h.c2
  have c3 := h.c3
  have c4 := h.c4
  have c5 := h.c5
  have c6 := h.c6
  have c7 := h.c7
  have c8 := h.c8
  have c9 := h.c9
  have c11 := h.c11
  clear h
  obtain ⟨xk, xb, xc, xo, xn⟩ := x
  obtain ⟨fk, fb, fc, fo, fn⟩ := f
  unfold isz
  dsimp only at c0 c1 c2 c3 c4 c5 c6 c7 c8 c9 ⊢
  have q1 := eq_act fk fb fc fo fn 0 0 0 0 0
  have q2 := ne_act xk xb xc xo xn 0 0 0 0 0
  cases e1 : eqB fk fb fc fo fn 0 0 0 0 0 <;> cases e2 : eqB xk xb xc xo xn 0 0 0 0 0 <;> rw [e1] at q1 <;> rw [e2] at q2 <;> clear e1 e2 <;> simp only [Bool.not_true, Bool.not_false, Bool.and_true, Bool.and_false, Bool.false_and, Bool.true_and, if_true, if_false, Bool.false_eq_true] at q2 ⊢
  all_goals
    go_enter Tryz.func63, Tryz.ntmps63
    go_wp2
    go_ret2
    exact ⟨rfl, rfl⟩
end Go.Proofs.YtknefjigdlbacaaGreatDoor
set_option linter.unusedSimpArgs false
namespace Go.Proofs.YtknefjigdlbacaaGreatDoor
open Go.RowKit Go.Maps
open Mm (Mem Blk)
theorem heap_setc {w : World} {p : Nat} {c : Array Value} {t : TypeId} {z : Nat × Nat} (h : w.heap[p]? = some (.cells c t z)) (i : Nat) (u : Value) : (w.setCell ⟨p, i, none⟩ u).heap[p]? = some (.cells (c.setIfInBounds i u) t z) := by
  obtain ⟨hlt, hk⟩ := Array.getElem?_eq_some_iff.1 h
  show (w.heap.modify p _)[p]? = _
  rw [Array.getElem?_eq_getElem (by rw [Array.size_modify]; exact hlt), Array.getElem_modify_self, hk]
  rfl
section
variable {B : Nat} {w : World} {p m : Nat} {g : Nat → Nat} {S : Mem} (h : Ar B w p m g S)
include h
theorem Ar.c0 : w.cell? ⟨p, 0, none⟩ = some (.int .i64 (S.room : Int)) := by simp [World.cell?, h.own]
theorem Ar.c1 : w.cell? ⟨p, 1, none⟩ = some (.int .i64 (Mm.used S.L : Int)) := by simp [World.cell?, h.own]
theorem Ar.c2 : w.cell? ⟨p, 2, none⟩ = some (.int .u64 (S.last : Int)) := by simp [World.cell?, h.own]
theorem Ar.c3 : w.cell? ⟨p, 3, none⟩ = some (.int .i64 (S.faults : Int)) := by simp [World.cell?, h.own]
theorem Ar.c4 : w.cell? ⟨p, 4, none⟩ = some (.map (some m)) := by simp [World.cell?, h.own]
theorem Ar.fz (i : Nat) : w.frozen? ⟨p, i, none⟩ = false := by simp [World.frozen?, h.own]
theorem Ar.pm : p ≠ m := fun e => by
  obtain ⟨n, D, _, ⟨es, c, hb, _⟩, _⟩ := h.map
  rw [← e, h.own] at hb
  cases hb
theorem Ar.pg : ∀ b ∈ S.L, g b.1 ≠ p := fun b hb e => by
  obtain ⟨tl, this⟩ := (h.row b hb).2
  rw [e, h.own] at this
  simp at this
theorem Ar.mg : ∀ b ∈ S.L, g b.1 ≠ m := fun b hb e => by
  obtain ⟨tl, h1⟩ := (h.row b hb).2
  obtain ⟨n, D, _, ⟨es, c, hb, _⟩, _⟩ := h.map
  rw [e, hb] at h1
  cases h1
theorem Ar.look {b : Nat} (hb : b < 18446744073709551616) {ws : List Int} (hg : Mm.get S.L b = some ws) :
    ∃ c, (Instr.lookup 110 (.map (some m)) (.int .u64 (b : Int)) true).run Tryz.prog w = .ok (.tuple #[sv (g b) ws.length c, .bool true]) w ∧
    (Instr.lookup 110 (.map (some m)) (.int .u64 (b : Int)) false).run Tryz.prog w = .ok (sv (g b) ws.length c) w := by
  obtain ⟨n, D, _, ho, hh⟩ := h.map
  obtain ⟨c, hat⟩ := hh.at_ b ws hg
  refine ⟨c, ?_, ?_⟩
  · obtain ⟨v, ps, hrun, hr⟩ := ho.look_ok law Tryz.underlying110 (zeroS w) (zd := .held (.slice none 0 0)) (zp := []) rfl (key_u64 hb)
    rw [hat] at hr
    rw [hh.has, hg] at hrun
    cases hr
    exact hrun
  · obtain ⟨v, ps, hrun, hr⟩ := ho.lookup law Tryz.underlying110 (zeroS w) (zd := .held (.slice none 0 0)) (zp := []) rfl (key_u64 hb)
    rw [hat] at hr
    cases hr
    exact hrun
theorem Ar.lookn {b : Nat} (hb : b < 18446744073709551616) (hg : Mm.get S.L b = none) :
    (Instr.lookup 110 (.map (some m)) (.int .u64 (b : Int)) true).run Tryz.prog w = .ok (.tuple #[.slice none 0 0, .bool false]) w ∧
    (Instr.lookup 110 (.map (some m)) (.int .u64 (b : Int)) false).run Tryz.prog w = .ok (.slice none 0 0) w := by
  obtain ⟨n, D, _, ho, hh⟩ := h.map
  have hn : Maps.has D (ky b) = false := by rw [hh.has, hg]; rfl
  have hat := Maps.atKey_of_not_has hn (.held (.slice none 0 0))
  refine ⟨?_, ?_⟩
  · obtain ⟨v, ps, hrun, hr⟩ := ho.look_ok law Tryz.underlying110 (zeroS w) (zd := .held (.slice none 0 0)) (zp := []) rfl (key_u64 hb)
    rw [hat] at hr
    rw [hn] at hrun
    cases hr
    exact hrun
  · obtain ⟨v, ps, hrun, hr⟩ := ho.lookup law Tryz.underlying110 (zeroS w) (zd := .held (.slice none 0 0)) (zp := []) rfl (key_u64 hb)
    rw [hat] at hr
    cases hr
    exact hrun
theorem Ar.made : Calls Tryz.prog 68 #[.pointer (some ⟨p, 0, none⟩)] w (Same (.bool true) w) :=
  made_any p _ true (by have := h.good.r1; simp; omega) w h.c0
/-- One more fault. -/
theorem Ar.faulted : Ar B (w.setCell ⟨p, 3, none⟩ (.int .i64 ((S.faults : Int) + 1))) p m g S.fault ∧ Tn (Fp p m g S) (Fp p m g S.fault) w (w.setCell ⟨p, 3, none⟩ (.int .i64 ((S.faults : Int) + 1))) := by
  refine ⟨⟨h.pB, h.mB, heap_setc h.own 3 _, ?_, fun b hb => ⟨(h.row b hb).1, (h.row b hb).2.keep (Below.heap_setCell _ _ _ _ (h.pg b hb))⟩, h.inj, h.good.fault⟩, ⟨rfl, rfl, rfl, by simp [World.setCell], fun k hk hF => Below.heap_setCell _ _ _ _ (fun e => hF (.inl e)), fun k hk => .inl hk⟩⟩
  obtain ⟨n, D, hn, ho, hh⟩ := h.map
  exact ⟨n, D, hn, map_keep ho (Below.heap_setCell _ _ _ _ (fun e => h.pm e.symm)), hh⟩
end
/-- A word is put. -/
theorem wd_set (ws : List Int) (i : Nat) (v : Int) : (wd ws).setIfInBounds i (.int .u64 v) = wd (ws.set i v) := by
  unfold wd
  rw [List.setIfInBounds_toArray, List.map_set]
theorem Wd.set {w : World} {k : Nat} {ws : List Int} (h : Wd w k ws) (i : Nat) (v : Int) : Wd (w.setCell ⟨k, i, none⟩ (.int .u64 v)) k (ws.set i v) := by
  obtain ⟨tl, h⟩ := h
  have e := heap_setc h i (.int .u64 v)
  by_cases hi : i < ws.length
  · refine ⟨tl, e.trans ?_⟩
    rw [Array.setIfInBounds_append, if_pos (by simpa [wd] using hi), wd_set]
  · refine ⟨tl.setIfInBounds (i - (wd ws).size) (.int .u64 v), e.trans ?_⟩
    rw [Array.setIfInBounds_append, if_neg (by simpa [wd] using hi), List.set_eq_of_length_le (by omega)]
theorem Ar.stored {B : Nat} {w : World} {p m : Nat} {g : Nat → Nat} {S : Mem} (h : Ar B w p m g S) {b : Nat} {ws : List Int} (hg : Mm.get S.L b = some ws) (i : Nat) (v : Int) :
    Ar B (w.setCell ⟨g b, i, none⟩ (.int .u64 v)) p m g (S.put b i v) ∧ Tn (Fp p m g S) (Fp p m g (S.put b i v)) w (w.setCell ⟨g b, i, none⟩ (.int .u64 v)) := by
  have hm := Mm.get_some_mem hg
  have hmem : ∀ c ∈ Mm.put S.L b i v, ∃ d ∈ S.L, d.1 = c.1 := fun c hc => by
    rcases Mm.mem_put hc with ⟨_, h2⟩ | ⟨h1, ws, h2, _⟩
    · exact ⟨c, h2, rfl⟩
    · exact ⟨_, h2, h1.symm⟩
  refine ⟨⟨h.pB, h.mB, ?_, ?_, fun c hc => ?_, fun c hc d hd e => ?_, h.good.put b i v⟩, ⟨rfl, rfl, rfl, by simp [World.setCell], fun k hk hF => Below.heap_setCell _ _ _ _ (fun e => hF (.inr (.inr ⟨_, hm, e⟩))), fun k hk => .inl ?_⟩⟩
  · rw [Below.heap_setCell _ _ _ _ (fun e => h.pg _ hm e.symm), h.own]
    show _ = some (Obj.cells #[_, Value.int .i64 (Mm.used (Mm.put S.L b i v) : Int), _, _, _] _ _)
    rw [Mm.used_put]
    rfl
  · obtain ⟨n, D, hn, ho, hh⟩ := h.map
    refine ⟨n, D, hn, map_keep ho (Below.heap_setCell _ _ _ _ (fun e => h.mg _ hm e.symm)), fun k => ?_, fun k us hk => ?_⟩
    · rw [hh.has]
      show _ = (Mm.get (Mm.put S.L b i v) k).isSome
      by_cases e : k = b
      · subst e; rw [Mm.get_put_same i v hg, hg]; rfl
      · rw [Mm.get_put_other _ i v e]
    · by_cases e : k = b
      · subst e
        have hk' : Mm.get (Mm.put S.L k i v) k = some us := hk
        rw [Mm.get_put_same i v hg] at hk'
        cases hk'
        rw [List.length_set]
        exact hh.at_ k ws hg
      · have hk' : Mm.get (Mm.put S.L b i v) k = some us := hk
        rw [Mm.get_put_other _ i v e] at hk'
        exact hh.at_ k us hk'
  · rcases Mm.mem_put hc with ⟨h1, h2⟩ | ⟨h1, us, h2, h3⟩
    · exact ⟨(h.row c h2).1, (h.row c h2).2.keep (Below.heap_setCell _ _ _ _ (fun e => h1 (h.inj c h2 _ hm e)))⟩
    · have hr := h.row _ h2
      have e2 := Mm.get_of_mem h.good.up _ h2
      have e3 : us = ws := by simpa [hg] using e2.symm
      subst e3
      rw [h1, h3]
      exact ⟨hr.1, hr.2.set i v⟩
  · obtain ⟨c', hc', e1⟩ := hmem c hc
    obtain ⟨d', hd', e2⟩ := hmem d hd
    rw [← e1, ← e2] at e ⊢
    exact h.inj c' hc' d' hd' e
  · rcases hk with hk | hk | ⟨c, hc, hk⟩
    · exact .inl hk
    · exact .inr (.inl hk)
    · obtain ⟨c', hc', e1⟩ := hmem c hc
      exact .inr (.inr ⟨c', hc', by rw [e1]; exact hk⟩)
set_option maxHeartbeats 1000000 in
theorem fault_any (p : Nat) (f : Nat) (hf : f ≤ 1000000000000) (c : Int) (w : World) (h3 : w.cell? ⟨p, 3, none⟩ = some (.int .i64 (f : Int))) (hz : w.frozen? ⟨p, 3, none⟩ = false) :
    Calls Tryz.prog 145 #[.pointer (some ⟨p, 0, none⟩), .int .i64 c] w fun e w' => e = .returned (.int .i64 c) ∧ w.setCell ⟨p, 3, none⟩ (.int .i64 ((f : Int) + 1)) = w' := by
  go_enter Tryz.func145, Tryz.ntmps145
  go_wp2
  go_ret
  exact ⟨rfl, rfl⟩
set_option maxRecDepth 100000 in
set_option maxHeartbeats 1000000 in
theorem reach_ok {B : Nat} {w : World} {p m : Nat} {g : Nat → Nat} {S : Mem} (h : Ar B w p m g S) {b : Nat} (hb : b < 18446744073709551616) {ws : List Int} (hg : Mm.get S.L b = some ws) (i : Nat) (hi : i < ws.length) :
    ∃ c, Calls Tryz.prog 144 #[.pointer (some ⟨p, 0, none⟩), .int .u64 (b : Int), .int .i64 (i : Int)] w (Same (.tuple #[sv (g b) ws.length c, .int .i64 0]) w) := by
  have HM := Lib.hid h.made
  have c4 := h.c4
  obtain ⟨cp, hl, -⟩ := h.look hb hg
  refine ⟨cp, ?_⟩
  have hd : decide (ws.length ≤ i) = false := by simpa using hi
  have hdZ : decide ((ws.length : Int) ≤ (i : Int)) = false := by simpa using hi
  clear h hg hb
  generalize ws.length = n at *
  unfold sv at *
  go_enter Tryz.func144, Tryz.ntmps144
  go_wp2_with (go_at_call 68; refine HM.out.mono ?_; rintro e w' ⟨rfl, rfl⟩)
  go_ret2
  exact ⟨rfl, rfl⟩
/-- What is wrong is told, and counted. -/
def bad (c : Int) : Value := .tuple #[.slice none 0 0, .int .i64 c]
set_option maxHeartbeats 1000000 in
theorem reach_bad {B : Nat} {w : World} {p m : Nat} {g : Nat → Nat} {S : Mem} (h : Ar B w p m g S) {b : Nat} (hb : b < 18446744073709551616) (i : Int) (hw : Mm.wrong S b i ≠ 0) (hf : S.faults ≤ 1000000000000) :
    Calls Tryz.prog 144 #[.pointer (some ⟨p, 0, none⟩), .int .u64 (b : Int), .int .i64 i] w fun e w' => e = .returned (bad (Mm.wrong S b i)) ∧ w.setCell ⟨p, 3, none⟩ (.int .i64 ((S.faults : Int) + 1)) = w' := by
  have HM := Lib.hid h.made
  have c4 := h.c4
  have HF := Lib.hid fun c => fault_any p S.faults hf c w h.c3 (h.fz 3)
  unfold Mm.wrong at hw ⊢
  cases hg : Mm.get S.L b with
  | none =>
    have hl := (h.lookn hb hg).1
    clear h hg hw hb
    go_enter Tryz.func144, Tryz.ntmps144
    go_wp2_with (first | (go_at_call 68; refine HM.out.mono ?_; rintro e w' ⟨rfl, rfl⟩) | (go_at_call 145; refine (HF.out _).mono ?_; rintro e w' ⟨rfl, rfl⟩) | fail)
    go_ret2
    exact ⟨rfl, rfl⟩
  | some ws =>
    rw [hg] at hw
    obtain ⟨cp, hl, -⟩ := h.look hb hg
    have hlen := Mm.used_len hg
    have := h.good.fits
    have := h.good.r2
    clear h hg hb
    simp only at hw ⊢
    by_cases hc : 0 ≤ i ∧ i < ws.length
    · simp [hc] at hw
    · rw [if_neg hc]
      clear hw
      generalize ws.length = n at *
      unfold sv at *
      by_cases h0 : i < 0
      · clear hc
        go_enter Tryz.func144, Tryz.ntmps144
        go_wp2_with (first | (go_at_call 68; refine HM.out.mono ?_; rintro e w' ⟨rfl, rfl⟩) | (go_at_call 145; refine (HF.out _).mono ?_; rintro e w' ⟨rfl, rfl⟩) | fail)
        go_ret2
        exact ⟨rfl, rfl⟩
      · have h1 : (n : Int) ≤ i := by omega
        clear hc
        go_enter Tryz.func144, Tryz.ntmps144
        go_wp2_with (first | (go_at_call 68; refine HM.out.mono ?_; rintro e w' ⟨rfl, rfl⟩) | (go_at_call 145; refine (HF.out _).mono ?_; rintro e w' ⟨rfl, rfl⟩) | fail)
        go_ret2
        exact ⟨rfl, rfl⟩
/-- The words of a block. -/
theorem Ar.cellb {B : Nat} {w : World} {p m : Nat} {g : Nat → Nat} {S : Mem} (h : Ar B w p m g S) {b : Nat} {ws : List Int} (hg : Mm.get S.L b = some ws) {i : Nat} {x : Int} (hi : ws[i]? = some x) :
    w.cell? ⟨g b, i, none⟩ = some (.int .u64 x) ∧ w.frozen? ⟨g b, i, none⟩ = false := by
  obtain ⟨tl, this⟩ := (h.row _ (Mm.get_some_mem hg)).2
  simp only at this
  have hl := (List.getElem?_eq_some_iff.1 hi).1
  have hc : (wd ws ++ tl)[i]? = some (.int .u64 x) := by
    rw [Array.getElem?_append_left (by simpa [wd] using hl)]
    simp [wd, hi]
  simp [World.cell?, World.frozen?, this, hc]
/-- Two answers: a word, and an error. -/
def we (x c : Int) : Value := .tuple #[.int .u64 x, .int .i64 c]
set_option maxHeartbeats 1000000 in
theorem load_ok {B : Nat} {w : World} {p : Nat} {S : Mem} {F : Nat → Prop} (h : Ax B w p S F) {b : Nat} (hb : b < 18446744073709551616) {ws : List Int} (hg : Mm.get S.L b = some ws) (i : Nat) {x : Int} (hx : ws[i]? = some x) :
    Calls Tryz.prog 113 #[.pointer (some ⟨p, 0, none⟩), .int .u64 (b : Int), .int .i64 (i : Int)] w (Same (we x 0) w) := by
  obtain ⟨m, g, h, rfl⟩ := h
  obtain ⟨hi, -⟩ := List.getElem?_eq_some_iff.1 hx
  obtain ⟨cp, hR⟩ := reach_ok h hb hg i hi
  have HR := Lib.hid hR; clear hR
  obtain ⟨cb, -⟩ := h.cellb hg hx
  have hlen := Mm.used_len hg
  have := h.good.fits
  have := h.good.r2
  clear h hg hb hx
  generalize ws.length = n at *
  unfold sv at *
  have hiZ : (i : Int) < (n : Int) := by omega
  go_enter Tryz.func113, Tryz.ntmps113
  go_wp2_with (go_at_call 144; refine HR.out.mono ?_; rintro e w' ⟨rfl, rfl⟩)
  go_ret2
  exact ⟨rfl, rfl⟩
theorem wrong_cases {S : Mem} {b : Nat} {i : Int} (h : Mm.wrong S b i ≠ 0) : Mm.wrong S b i = 13 ∨ Mm.wrong S b i = 14 := by
  unfold Mm.wrong at *
  split
  · exact .inl rfl
  · rename_i ws e
    rw [e] at h
    simp only at h
    split
    · rename_i hc; simp [hc] at h
    · exact .inr rfl
set_option maxHeartbeats 1000000 in
theorem load_bad {B : Nat} {w : World} {p : Nat} {S : Mem} {F : Nat → Prop} (h : Ax B w p S F) {b : Nat} (hb : b < 18446744073709551616) (i : Int) (hw : Mm.wrong S b i ≠ 0) (hf : S.faults ≤ 1000000000000) :
    Calls Tryz.prog 113 #[.pointer (some ⟨p, 0, none⟩), .int .u64 (b : Int), .int .i64 i] w (Turns (we 0 (Mm.wrong S b i)) B p S.fault F w) := by
  obtain ⟨m, g, h, rfl⟩ := h
  have HR := Lib.hid (reach_bad h hb i hw hf)
  have HF := Lib.hid h.faulted
  have h0 : (Mm.wrong S b i != 0) = true := by simpa using hw
  clear h hb hw
  generalize Mm.wrong S b i = c at *
  unfold bad at HR
  go_enter Tryz.func113, Tryz.ntmps113
  go_wp2_with (go_at_call 144; refine HR.out.mono ?_; rintro e w' ⟨rfl, rfl⟩)
  go_ret2
  exact ⟨rfl, _, ⟨_, _, HF.out.1, rfl⟩, HF.out.2⟩
set_option maxHeartbeats 1000000 in
theorem store_ok {B : Nat} {w : World} {p : Nat} {S : Mem} {F : Nat → Prop} (h : Ax B w p S F) {b : Nat} (hb : b < 18446744073709551616) {ws : List Int} (hg : Mm.get S.L b = some ws) (i : Nat) (hi : i < ws.length) (v : Int) :
    Calls Tryz.prog 114 #[.pointer (some ⟨p, 0, none⟩), .int .u64 (b : Int), .int .i64 (i : Int), .int .u64 v] w (Turns (.int .i64 0) B p (S.put b i v) F w) := by
  obtain ⟨m, g, h, rfl⟩ := h
  obtain ⟨cp, hR⟩ := reach_ok h hb hg i hi
  have HR := Lib.hid hR; clear hR
  obtain ⟨cb, fb⟩ := h.cellb hg (List.getElem?_eq_getElem hi)
  have HF := Lib.hid (h.stored hg i v)
  have hlen := Mm.used_len hg
  have := h.good.fits
  have := h.good.r2
  clear h hg hb
  generalize ws[i] = x at *
  generalize ws.length = n at *
  unfold sv at *
  have hiZ : (i : Int) < (n : Int) := by omega
  go_enter Tryz.func114, Tryz.ntmps114
  go_wp2_with (go_at_call 144; refine HR.out.mono ?_; rintro e w' ⟨rfl, rfl⟩)
  go_ret
  exact ⟨rfl, _, ⟨_, _, HF.out.1, rfl⟩, HF.out.2⟩
set_option maxHeartbeats 1000000 in
theorem store_bad {B : Nat} {w : World} {p : Nat} {S : Mem} {F : Nat → Prop} (h : Ax B w p S F) {b : Nat} (hb : b < 18446744073709551616) (i : Int) (hw : Mm.wrong S b i ≠ 0) (hf : S.faults ≤ 1000000000000) (v : Int) :
    Calls Tryz.prog 114 #[.pointer (some ⟨p, 0, none⟩), .int .u64 (b : Int), .int .i64 i, .int .u64 v] w (Turns (.int .i64 (Mm.wrong S b i)) B p S.fault F w) := by
  obtain ⟨m, g, h, rfl⟩ := h
  have HR := Lib.hid (reach_bad h hb i hw hf)
  have HF := Lib.hid h.faulted
  have h0 : (Mm.wrong S b i != 0) = true := by simpa using hw
  clear h hb hw
  generalize Mm.wrong S b i = c at *
  unfold bad at HR
  go_enter Tryz.func114, Tryz.ntmps114
  go_wp2_with (go_at_call 144; refine HR.out.mono ?_; rintro e w' ⟨rfl, rfl⟩)
  go_ret
  exact ⟨rfl, _, ⟨_, _, HF.out.1, rfl⟩, HF.out.2⟩
end Go.Proofs.YtknefjigdlbacaaGreatDoor
