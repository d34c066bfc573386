/-
  Several texts in one: The walks of Cas, Add, Free, Size, Used, Faults; The walk of Alloc; The walks of lane.Byte, lane.With, isPlace, isByte. By an AI agent.
-/
import Derived.Test.YtknefjigdlbacaaGreatDoorSkGAG
import Derived.Deep.QuietTactic
import Derived.BigQuiet
import Derived.Test.YtknefjigdlbacaaGreatDoorSkGAH
import Derived.Test.YtknefjigdlbacaaGreatDoorChecked
import Derived.Test.YtknefjigdlbacaaGreatDoorSkGAB
import Derived.WalkKit
import Derived.WalkSpells
import Derived.WalkLawsBesides
import Derived.WalkMore
import Derived.Below
import Derived.Lib.Hide
import Derived.IntWalk
set_option linter.unusedSimpArgs false
namespace Go.Proofs.YtknefjigdlbacaaGreatDoor
open Go.RowKit Go.Maps
open Mm (Mem Blk)
set_option maxHeartbeats 1000000 in
theorem cas_bad {B : Nat} {w : World} {p : Nat} {S : Mem} {F : Nat → Prop} (h : Ax B w p S F) {b : Nat} (hb : b < 18446744073709551616) (i : Int) (hw : Mm.wrong S b i ≠ 0) (hf : S.faults ≤ 1000000000000) (o v : Int) :
    Calls Tryz.prog 115 #[.pointer (some ⟨p, 0, none⟩), .int .u64 (b : Int), .int .i64 i, .int .u64 o, .int .u64 v] w (Turns (we 0 (Mm.wrong S b i)) B p S.fault F w) := by
  obtain ⟨m, g, h, rfl⟩ := h
  have HR := Lib.hid (reach_bad h hb i hw hf)
  have HF := Lib.hid h.faulted
  have h0 : (Mm.wrong S b i != 0) = true := by simpa using hw
  clear h hb hw
  generalize Mm.wrong S b i = c at *
  unfold bad at HR
  go_enter Tryz.func115, Tryz.ntmps115
  go_wp2_with (go_at_call 144; refine HR.out.mono ?_; rintro e w' ⟨rfl, rfl⟩)
  go_ret2
  exact ⟨rfl, _, ⟨_, _, HF.out.1, rfl⟩, HF.out.2⟩
set_option maxHeartbeats 1000000 in
theorem add_bad {B : Nat} {w : World} {p : Nat} {S : Mem} {F : Nat → Prop} (h : Ax B w p S F) {b : Nat} (hb : b < 18446744073709551616) (i : Int) (hw : Mm.wrong S b i ≠ 0) (hf : S.faults ≤ 1000000000000) (v : Int) :
    Calls Tryz.prog 116 #[.pointer (some ⟨p, 0, none⟩), .int .u64 (b : Int), .int .i64 i, .int .u64 v] w (Turns (we 0 (Mm.wrong S b i)) B p S.fault F w) := by
  obtain ⟨m, g, h, rfl⟩ := h
  have HR := Lib.hid (reach_bad h hb i hw hf)
  have HF := Lib.hid h.faulted
  have h0 : (Mm.wrong S b i != 0) = true := by simpa using hw
  clear h hb hw
  generalize Mm.wrong S b i = c at *
  unfold bad at HR
  go_enter Tryz.func116, Tryz.ntmps116
  go_wp2_with (go_at_call 144; refine HR.out.mono ?_; rintro e w' ⟨rfl, rfl⟩)
  go_ret2
  exact ⟨rfl, _, ⟨_, _, HF.out.1, rfl⟩, HF.out.2⟩
set_option maxHeartbeats 1000000 in
theorem add_ok {B : Nat} {w : World} {p : Nat} {S : Mem} {F : Nat → Prop} (h : Ax B w p S F) {b : Nat} (hb : b < 18446744073709551616) {ws : List Int} (hg : Mm.get S.L b = some ws) (i : Nat) {x : Int} (hx : ws[i]? = some x) (v : Int) :
    Calls Tryz.prog 116 #[.pointer (some ⟨p, 0, none⟩), .int .u64 (b : Int), .int .i64 (i : Int), .int .u64 v] w (Turns (we x 0) B p (S.put b i (IntKind.u64.wrap (x + v))) F w) := by
  obtain ⟨m, g, h, rfl⟩ := h
  obtain ⟨hi, -⟩ := List.getElem?_eq_some_iff.1 hx
  obtain ⟨cp, hR⟩ := reach_ok h hb hg i hi
  have HR := Lib.hid hR; clear hR
  obtain ⟨cb, fb⟩ := h.cellb hg hx
  have HF := Lib.hid (h.stored hg i (IntKind.u64.wrap (x + v)))
  clear h hg hb hx
  generalize ws.length = n at *
  unfold sv at *
  have hiZ : (i : Int) < (n : Int) := by omega
  go_enter Tryz.func116, Tryz.ntmps116
  go_wp2_with (go_at_call 144; refine HR.out.mono ?_; rintro e w' ⟨rfl, rfl⟩)
  go_ret2
  exact ⟨rfl, _, ⟨_, _, HF.out.1, rfl⟩, HF.out.2⟩
set_option maxHeartbeats 1000000 in
theorem cas_yes {B : Nat} {w : World} {p : Nat} {S : Mem} {F : Nat → Prop} (h : Ax B w p S F) {b : Nat} (hb : b < 18446744073709551616) {ws : List Int} (hg : Mm.get S.L b = some ws) (i : Nat) {x : Int} (hx : ws[i]? = some x) (v : Int) :
    Calls Tryz.prog 115 #[.pointer (some ⟨p, 0, none⟩), .int .u64 (b : Int), .int .i64 (i : Int), .int .u64 x, .int .u64 v] w (Turns (we x 0) B p (S.put b i v) F w) := by
  obtain ⟨m, g, h, rfl⟩ := h
  obtain ⟨hi, -⟩ := List.getElem?_eq_some_iff.1 hx
  obtain ⟨cp, hR⟩ := reach_ok h hb hg i hi
  have HR := Lib.hid hR; clear hR
  obtain ⟨cb, fb⟩ := h.cellb hg hx
  have HF := Lib.hid (h.stored hg i v)
  clear h hg hb hx
  generalize ws.length = n at *
  unfold sv at *
  have hiZ : (i : Int) < (n : Int) := by omega
  go_enter Tryz.func115, Tryz.ntmps115
  go_wp2_with (go_at_call 144; refine HR.out.mono ?_; rintro e w' ⟨rfl, rfl⟩)
  go_ret2
  exact ⟨rfl, _, ⟨_, _, HF.out.1, rfl⟩, HF.out.2⟩
set_option maxHeartbeats 1000000 in
theorem cas_no {B : Nat} {w : World} {p : Nat} {S : Mem} {F : Nat → Prop} (h : Ax B w p S F) {b : Nat} (hb : b < 18446744073709551616) {ws : List Int} (hg : Mm.get S.L b = some ws) (i : Nat) {x : Int} (hx : ws[i]? = some x) (o v : Int) (ho : x ≠ o) :
    Calls Tryz.prog 115 #[.pointer (some ⟨p, 0, none⟩), .int .u64 (b : Int), .int .i64 (i : Int), .int .u64 o, .int .u64 v] w (Same (we x 0) w) := by
  obtain ⟨m, g, h, rfl⟩ := h
  obtain ⟨hi, -⟩ := List.getElem?_eq_some_iff.1 hx
  obtain ⟨cp, hR⟩ := reach_ok h hb hg i hi
  have HR := Lib.hid hR; clear hR
  obtain ⟨cb, fb⟩ := h.cellb hg hx
  have he : (x == o) = false := by simpa using ho
  clear h hg hb hx ho
  generalize ws.length = n at *
  unfold sv at *
  have hiZ : (i : Int) < (n : Int) := by omega
  go_enter Tryz.func115, Tryz.ntmps115
  go_wp2_with (go_at_call 144; refine HR.out.mono ?_; rintro e w' ⟨rfl, rfl⟩)
  go_ret2
  exact ⟨rfl, rfl⟩
set_option maxHeartbeats 1000000 in
theorem faults_any {B : Nat} {w : World} {p : Nat} {S : Mem} {F : Nat → Prop} (h : Ax B w p S F) :
    Calls Tryz.prog 18 #[.pointer (some ⟨p, 0, none⟩)] w (Same (.int .i64 (S.faults : Int)) w) := by
  obtain ⟨m, g, h, rfl⟩ := h
  have HM := Lib.hid h.made
  have c3 := h.c3
  clear h
  go_enter Tryz.func18, Tryz.ntmps18
  go_wp2_with (go_at_call 68; refine HM.out.mono ?_; rintro e w' ⟨rfl, rfl⟩)
  go_ret
  exact ⟨rfl, rfl⟩
/-- How many cells a block has. -/
def szOf (S : Mem) (b : Nat) : Nat := match Mm.get S.L b with | none => 0 | some ws => ws.length
theorem ky_inj {a b : Nat} (h : ky a = ky b) : a = b := by
  unfold ky at h
  injection h with _ h2
  omega
/-- A block is taken away: the map's run, and the arena behind it. -/
theorem Ar.freed {B : Nat} {w : World} {p m : Nat} {g : Nat → Nat} {S : Mem} (h : Ar B w p m g S) {b : Nat} (hb : b < 18446744073709551616) {ws : List Int} (hg : Mm.get S.L b = some ws) (ty : TypeId) :
    ∃ w', (Builtin.delete_ #[110, 22] ty #[.map (some m), .int .u64 (b : Int)]).run Tryz.prog (w.setCell ⟨p, 1, none⟩ (.int .i64 ((Mm.used S.L : Int) - (ws.length : Int)))) = .ok (.tuple #[]) w' ∧
      Ar B w' p m g (S.free b) ∧ Tn (Fp p m g S) (Fp p m g (S.free b)) w w' := by
  obtain ⟨n, D, hn, ho, hh⟩ := h.map
  have hu := Mm.used_del h.good.up hg
  have ho1 := map_keep (w' := w.setCell ⟨p, 1, none⟩ (.int .i64 ((Mm.used S.L : Int) - (ws.length : Int)))) ho (Below.heap_setCell _ _ _ _ (fun e => h.pm e.symm))
  obtain ⟨w', hrun, ho', ht⟩ := ho1.drop law Tryz.underlying110 (key_u64 hb) ty
  have hg' := ht.grown
  have hz : w.heap.size ≤ w'.heap.size := by have := hg'.size; simpa [World.setCell] using this
  have hblk : ∀ k, k < w.heap.size → k ≠ p → k ≠ m → w'.heap[k]? = w.heap[k]? := fun k hk h1 h2 => (hg'.block k (by simpa [World.setCell] using hk) (fun e => h2 (by cases e; rfl))).trans (Below.heap_setCell _ _ _ _ h1)
  refine ⟨w', hrun, ⟨h.pB, h.mB, ?_, ⟨n, _, hn, ho', fun k => ?_, fun k us hk => ?_⟩, fun c hc => ?_, fun c hc d hd => h.inj c (Mm.mem_del.1 hc).1 d (Mm.mem_del.1 hd).1, h.good.free hg⟩, ⟨hg'.os, hg'.tape, hg'.output, hz, fun k hk hF => hblk k hk (fun e => hF (.inl e)) (fun e => hF (.inr (.inl e))), fun k hk => .inl ?_⟩⟩
  · rw [hg'.block p (by simpa [World.setCell] using h.lt) (fun e => h.pm (by cases e; rfl)), heap_setc h.own]
    show _ = some (Obj.cells #[_, Value.int .i64 (Mm.used (Mm.del S.L b) : Int), _, _, _] _ _)
    rw [show (Mm.used S.L : Int) - (ws.length : Int) = (Mm.used (Mm.del S.L b) : Int) by omega]
    rfl
  · show _ = (Mm.get (Mm.del S.L b) k).isSome
    rw [Mm.get_del]
    by_cases e : k = b
    · subst e; rw [if_pos rfl, Maps.has_del_same]; rfl
    · rw [if_neg e, Maps.has_del_other (fun e2 => e (ky_inj e2)), hh.has]
  · have hk' : Mm.get (Mm.del S.L b) k = some us := hk
    rw [Mm.get_del] at hk'
    by_cases e : k = b
    · rw [if_pos e] at hk'; cases hk'
    · rw [if_neg e] at hk'
      rw [Maps.atKey_del_other (fun e2 => e (ky_inj e2))]
      exact hh.at_ k us hk'
  · have hc' := (Mm.mem_del.1 hc).1
    exact ⟨(h.row c hc').1, (h.row c hc').2.keep (hblk _ (h.ltb c hc') (h.pg c hc') (h.mg c hc'))⟩
  · rcases hk with hk | hk | ⟨c, hc, hk⟩
    · exact .inl hk
    · exact .inr (.inl hk)
    · exact .inr (.inr ⟨c, (Mm.mem_del.1 hc).1, hk⟩)
set_option maxRecDepth 100000 in
set_option maxHeartbeats 1000000 in
theorem free_ok {B : Nat} {w : World} {p : Nat} {S : Mem} {F : Nat → Prop} (h : Ax B w p S F) {b : Nat} (hb : b < 18446744073709551616) {ws : List Int} (hg : Mm.get S.L b = some ws) :
    Calls Tryz.prog 117 #[.pointer (some ⟨p, 0, none⟩), .int .u64 (b : Int)] w (Turns (.int .i64 0) B p (S.free b) F w) := by
  obtain ⟨m, g, h, rfl⟩ := h
  have HM := Lib.hid h.made
  have c4 := h.c4
  have c1 := h.c1
  have f1 := h.fz 1
  obtain ⟨cp, hl, -⟩ := h.look hb hg
  have hu := Mm.used_len hg
  have hfit := h.good.fits
  have hr2 := h.good.r2
  obtain ⟨w2, hrun, ha, ht⟩ := h.freed hb hg 0
  have c4' : (w.setCell ⟨p, 1, none⟩ (.int .i64 ((Mm.used S.L : Int) - (ws.length : Int)))).cell? ⟨p, 4, none⟩ = some (.map (some m)) := by
    simp [World.cell?, heap_setc h.own]
  have HA := Lib.hid ha; clear ha
  have HT := Lib.hid ht; clear ht
  clear h hg hb
  have hu2 : Mm.used S.L ≤ 65536 := by omega
  generalize Mm.used S.L = us at *
  generalize ws.length = n at *
  unfold sv at *
  clear hfit hr2
  go_enter Tryz.func117, Tryz.ntmps117
  go_wp2_with (go_at_call 68; refine HM.out.mono ?_; rintro e w' ⟨rfl, rfl⟩)
  go_ret
  exact ⟨rfl, _, ⟨_, _, HA.out, rfl⟩, HT.out⟩
set_option maxHeartbeats 1000000 in
theorem free_bad {B : Nat} {w : World} {p : Nat} {S : Mem} {F : Nat → Prop} (h : Ax B w p S F) {b : Nat} (hb : b < 18446744073709551616) (hg : Mm.get S.L b = none) (hf : S.faults ≤ 1000000000000) :
    Calls Tryz.prog 117 #[.pointer (some ⟨p, 0, none⟩), .int .u64 (b : Int)] w (Turns (.int .i64 13) B p S.fault F w) := by
  obtain ⟨m, g, h, rfl⟩ := h
  have HM := Lib.hid h.made
  have c4 := h.c4
  have HG := Lib.hid fun c => fault_any p S.faults hf c w h.c3 (h.fz 3)
  have HF := Lib.hid h.faulted
  have hl := (h.lookn hb hg).1
  clear h hg hb
  go_enter Tryz.func117, Tryz.ntmps117
  go_wp2_with (first | (go_at_call 68; refine HM.out.mono ?_; rintro e w' ⟨rfl, rfl⟩) | (go_at_call 145; refine (HG.out _).mono ?_; rintro e w' ⟨rfl, rfl⟩) | fail)
  go_ret
  exact ⟨rfl, _, ⟨_, _, HF.out.1, rfl⟩, HF.out.2⟩
end Go.Proofs.YtknefjigdlbacaaGreatDoor
set_option linter.unusedSimpArgs false
namespace Go.Proofs.YtknefjigdlbacaaGreatDoor
open Go.RowKit Go.Maps
open Mm (Mem Blk)
theorem made_zero (n : Nat) : madeCells (Value.int .u64 0).cells n = wd (List.replicate n 0) := by
  unfold madeCells wd
  apply Array.ext_getElem?
  intro k
  by_cases h : k < n <;> simp [h, Value.cells, List.getElem?_replicate, Nat.mod_one]
theorem make_any (n : Nat) (h : n ≤ 1000000) (W : World) : (Instr.makeSlice 29 (.int .i64 (n : Int)) (.int .i64 (n : Int))).run Tryz.prog W = .ok (.slice (some ⟨W.heap.size, 0, none⟩) n n) (W.alloc (.cells (wd (List.replicate n 0)) 22)) := by
  obtain ⟨i0, hi, hz0, hz1, hz2⟩ := info_parts info_u64
  have hr := run_make (P := Tryz.prog) W 29 22 i0 (.int .u64 0) Tryz.underlying29 hi hz0 .i64 .i64 n n (by omega) (Int.le_refl _) (by rw [hz2]; omega) (by omega)
  simp only [Int.toNat_natCast] at hr
  rw [hr, hz1, Nat.mul_one, made_zero]
theorem quiet_of {f : FuncId} {args : Array Value} {w : World} {n : Nat} {v : Value} (h : Calls Tryz.prog f args (w.drewN n) (Same v (w.drewN n))) : Calls Tryz.prog f args (w.drewN n) fun e w'' => e = .returned v ∧ ∃ m, w'' = w.drewN m :=
  h.mono fun _ _ ⟨he, hm⟩ => ⟨he, n, hm.symm⟩
theorem below_drewN (w : World) (n : Nat) : Below w.heap.size w (w.drewN n) := ⟨rfl, rfl, rfl, Nat.le_refl _, fun _ _ => rfl⟩
theorem Ar.drewN {B : Nat} {w : World} {p m : Nat} {g : Nat → Nat} {S : Mem} (h : Ar B w p m g S) (n : Nat) : Ar B (w.drewN n) p m g S := h.keep fun _ _ => rfl
set_option maxRecDepth 100000 in
set_option maxHeartbeats 2000000 in
theorem alloc_no {B : Nat} {w : World} {p : Nat} {S : Mem} {F : Nat → Prop} (h : Ax B w p S F) (n : Int) (hn : n < 1 ∨ (S.room : Int) - (Mm.used S.L : Int) < n) :
    Calls Tryz.prog 58 #[.pointer (some ⟨p, 0, none⟩), .int .i64 n] w (Gives (.int .u64 0) w) := by
  obtain ⟨m, g, h, rfl⟩ := h
  have HM := Lib.hid fun n => quiet_of (h.drewN n).made
  have c0 := h.c0
  have c1 := h.c1
  have hfit := h.good.fits
  have hr2 := h.good.r2
  clear h
  generalize Mm.used S.L = us at *
  generalize S.room = rm at *
  have hw1 : IntKind.i64.wrap ((rm : Int) - (us : Int)) = (rm : Int) - (us : Int) := IntWalk.i64_in _ (by omega)
  by_cases h1 : n < 1
  · clear hn
    go_enter Tryz.func58, Tryz.ntmps58
    go_wp2
    go_quiet ((go_at_call 68; with_reducible exact HM.out _))
    go_wp2
    go_ret
    exact ⟨rfl, below_drewN _ _⟩
  · have h2 : (rm : Int) - (us : Int) < n := by omega
    have d1 : decide (n < 1) = false := by simpa using h1
    have d2 : decide ((rm : Int) - (us : Int) < n) = true := by simpa using h2
    clear hn h1 h2 hfit hr2
    go_enter Tryz.func58, Tryz.ntmps58
    go_wp2
    go_quiet ((go_at_call 68; with_reducible exact HM.out _))
    go_wp2
    go_ret
    exact ⟨rfl, below_drewN _ _⟩
/-- A block is given out: the map's run, and the arena behind it. -/
theorem Ar.alloced {B : Nat} {w : World} {p m : Nat} {g : Nat → Nat} {S : Mem} (h : Ar B w p m g S) (hB : B ≤ w.heap.size) (n : Nat) (h1 : 1 ≤ n) (hn : n ≤ S.room - Mm.used S.L) (hl : S.last ≤ 1000000000000) (q : Nat) (W : World)
    (hW : ((w.drewN q).setCell ⟨p, 2, none⟩ (.int .u64 ((S.last : Int) + 1))).setCell ⟨p, 1, none⟩ (.int .i64 ((Mm.used S.L : Int) + (n : Int))) = W) :
    ∃ w2, (Instr.mapUpdate 110 (.map (some m)) (.int .u64 ((S.last : Int) + 1)) (.slice (some ⟨W.heap.size, 0, none⟩) n n)).run Tryz.prog ((W.alloc (.cells (wd (List.replicate n 0)) 22)).drew) = .ok () w2 ∧
      w2.cell? ⟨p, 2, none⟩ = some (.int .u64 ((S.last : Int) + 1)) ∧ ∃ g', Ar B w2 p m g' (S.alloc n) ∧ Tn (Fp p m g S) (Fp p m g' (S.alloc n)) w w2 := by
  have hsz : W.heap.size = w.heap.size := by subst hW; simp [World.setCell, World.drewN]
  have hown : W.heap[p]? = some (.cells #[.int .i64 (S.room : Int), .int .i64 ((Mm.used S.L : Int) + (n : Int)), .int .u64 ((S.last : Int) + 1), .int .i64 (S.faults : Int), .map (some m)] 112 (0, 0)) := by
    subst hW
    exact heap_setc (heap_setc (w := w.drewN q) h.own 2 _) 1 _
  have hoth : ∀ k, k ≠ p → W.heap[k]? = w.heap[k]? := fun k hk => by
    subst hW
    exact (Below.heap_setCell _ _ _ _ hk).trans (Below.heap_setCell _ _ _ _ hk)
  obtain ⟨nn, D, hnn, ho, hh⟩ := h.map
  have ho1 : ((W.alloc (.cells (wd (List.replicate n 0)) 22)).drew).ownsMap Tryz.prog 22 hv m nn D :=
    map_keep ho ((Below.heap_alloc W _ m (by rw [hsz]; exact h.ltm)).trans (hoth m (fun e => h.pm e.symm)))
  have hkey := key_u64 (n := S.last + 1) (by omega)
  rw [show (((S.last + 1 : Nat) : Int)) = (S.last : Int) + 1 by omega] at hkey
  obtain ⟨w2, hrun, ho2, ht⟩ := ho1.store law Tryz.underlying110 (by unfold maxLen; omega) hkey (val := .slice (some ⟨W.heap.size, 0, none⟩) n n) (d := .held (sl w.heap.size n)) (ps := []) (by rw [hsz]; rfl)
  have hg := ht.grown
  have hblk : ∀ k, k < w.heap.size → k ≠ p → k ≠ m → w2.heap[k]? = w.heap[k]? := fun k hk e1 e2 =>
    (hg.block k (by simp [World.drew, hsz]; omega) (fun e => e2 (by cases e; rfl))).trans ((Below.heap_alloc W _ k (by rw [hsz]; exact hk)).trans (hoth k e1))
  have hp : w2.heap[p]? = W.heap[p]? := (hg.block p (by have := h.lt; simp [World.drew, hsz]; omega) (fun e => h.pm (by cases e; rfl))).trans (Below.heap_alloc W _ p (by rw [hsz]; exact h.lt))
  have hnew : w2.heap[w.heap.size]? = some (.cells (wd (List.replicate n 0)) 22 (0, 0)) := by
    have := h.ltm
    refine (hg.block w.heap.size (by simp [World.drew, hsz]) (fun e => by cases e; omega)).trans ?_
    rw [← hsz]
    exact heap_alloc_new W _
  have hz2 : w.heap.size ≤ w2.heap.size := by have := hg.size; simp [World.drew, hsz] at this; omega
  have hup : ∀ b ∈ S.L, b.1 ≠ S.last + 1 := fun b hb => by have := (h.good.up.mem b hb).2; omega
  refine ⟨w2, hrun, by rw [World.cell?_of_block (w := W) (a := ⟨p, 2, none⟩) hp]; simp [World.cell?, hown], fun k => if k = S.last + 1 then w.heap.size else g k, ⟨h.pB, h.mB, ?_, ⟨nn + 1, _, Nat.succ_le_succ hnn, ho2, fun k => ?_, fun k us hk => ?_⟩, fun c hc => ?_, fun c hc d hd e => ?_, h.good.alloc h1 hn⟩, ⟨hg.os.trans (by subst hW; rfl), hg.tape.trans (by subst hW; rfl), hg.output.trans (by subst hW; rfl), hz2, fun k hk hF => hblk k hk (fun e => hF (.inl e)) (fun e => hF (.inr (.inl e))), fun k hk => ?_⟩⟩
  · rw [hp, hown]
    show _ = some (Obj.cells #[_, Value.int .i64 (Mm.used (S.L ++ [(S.last + 1, List.replicate n 0)]) : Int), Value.int .u64 ((S.last + 1 : Nat) : Int), _, _] _ _)
    rw [Mm.used_append]
    simp [Mm.used]
    exact ⟨rfl, rfl⟩
  · show _ = (Mm.get (S.L ++ [(S.last + 1, List.replicate n 0)]) k).isSome
    rw [Mm.get_append]
    by_cases e : k = S.last + 1
    · subst e
      rw [Maps.has_put_same ho1.isMap]
      · simp [Mm.get]
      · trivial
    · rw [Maps.has_put_other (fun e2 => e (ky_inj e2)), hh.has]
      have e2 : ¬ S.last + 1 = k := fun e3 => e e3.symm
      simp [Mm.get, e2]
  · have hk' : Mm.get (S.L ++ [(S.last + 1, List.replicate n 0)]) k = some us := hk
    rw [Mm.get_append] at hk'
    by_cases e : k = S.last + 1
    · subst e
      rw [Mm.new_get S h.good] at hk'
      simp [Mm.get] at hk'
      subst hk'
      refine ⟨n, ?_⟩
      rw [Maps.atKey_put_same ho1.isMap]
      · simp [sv, sl]
      · trivial
    · have e2 : ¬ S.last + 1 = k := fun e3 => e e3.symm
      simp [Mm.get, e2] at hk'
      rw [Maps.atKey_put_other (fun e2 => e (ky_inj e2)), if_neg e]
      exact hh.at_ k us hk'
  · rcases List.mem_append.1 hc with hc | hc
    · rw [if_neg (hup c hc)]
      exact ⟨(h.row c hc).1, (h.row c hc).2.keep (hblk _ (h.ltb c hc) (h.pg c hc) (h.mg c hc))⟩
    · simp at hc
      subst hc
      simp only [if_true]
      exact ⟨hB, .of hnew⟩
  · rcases List.mem_append.1 hc with hc | hc <;> rcases List.mem_append.1 hd with hd | hd
    · rw [if_neg (hup c hc), if_neg (hup d hd)] at e
      exact h.inj c hc d hd e
    · simp at hd
      subst hd
      simp only [if_true] at e
      rw [if_neg (hup c hc)] at e
      have := h.ltb c hc
      omega
    · simp at hc
      subst hc
      simp only [if_true] at e
      rw [if_neg (hup d hd)] at e
      have := h.ltb d hd
      omega
    · simp at hc hd
      rw [hc, hd]
  · rcases hk with hk | hk | ⟨c, hc, hk⟩
    · exact .inl (.inl hk)
    · exact .inl (.inr (.inl hk))
    · rcases List.mem_append.1 hc with hc | hc
      · dsimp only at hk
        rw [if_neg (hup c hc)] at hk
        exact .inl (.inr (.inr ⟨c, hc, hk⟩))
      · simp at hc
        subst hc
        simp only [if_true] at hk
        exact .inr (by omega)
set_option maxRecDepth 100000 in
set_option maxHeartbeats 2000000 in
theorem alloc_ok {B : Nat} {w : World} {p : Nat} {S : Mem} {F : Nat → Prop} (h : Ax B w p S F) (hB : B ≤ w.heap.size) (n : Nat) (h1 : 1 ≤ n) (hn : n ≤ S.room - Mm.used S.L) (hl : S.last ≤ 1000000000000) :
    Calls Tryz.prog 58 #[.pointer (some ⟨p, 0, none⟩), .int .i64 (n : Int)] w (Turns (.int .u64 ((S.last : Int) + 1)) B p (S.alloc n) F w) := by
  obtain ⟨m, g, h, rfl⟩ := h
  have HM := Lib.hid fun n => quiet_of (h.drewN n).made
  have c0 := h.c0
  have c1 := h.c1
  have c2 := h.c2
  have c4 := h.c4
  have f1 := h.fz 1
  have f2 := h.fz 2
  have hfit := h.good.fits
  have hr2 := h.good.r2
  have hpm := h.pm
  have hlt := h.lt
  have H := Lib.hid fun q => h.alloced hB n h1 hn hl q _ rfl; clear h
  have hd1 : decide ((n : Int) < 1) = false := by simp; omega
  have hd2 : decide ((S.room : Int) - (Mm.used S.L : Int) < (n : Int)) = false := by simp; omega
  have hn6 : n ≤ 1000000 := by omega
  have hus : Mm.used S.L ≤ 1000000 := by omega
  have hw1 : IntKind.i64.wrap ((S.room : Int) - (Mm.used S.L : Int)) = (S.room : Int) - (Mm.used S.L : Int) := IntWalk.i64_in _ (by omega)
  clear hfit hr2 hn
  obtain ⟨us, eus⟩ : ∃ us, us = Mm.used S.L := ⟨_, rfl⟩
  obtain ⟨rm, erm⟩ : ∃ rm, rm = S.room := ⟨_, rfl⟩
  obtain ⟨la, ela⟩ : ∃ la, la = S.last := ⟨_, rfl⟩
  rw [← eus] at H
  rw [← ela] at H hl
  rw [← eus, ← erm] at hw1 hd2
  rw [← eus] at c1 hus
  rw [← erm] at c0
  rw [← ela] at c2 ⊢
  clear eus erm ela
  go_enter Tryz.func58, Tryz.ntmps58
  go_wp2
  go_quiet ((go_at_call 68; with_reducible exact HM.out _))
  go_wp2
  obtain ⟨w2, hrun, d2, g', ha, ht⟩ := H.out nq
  obtain ⟨W, hW⟩ : ∃ W, ((w.drewN nq).setCell ⟨p, 2, none⟩ (.int .u64 ((la : Int) + 1))).setCell ⟨p, 1, none⟩ (.int .i64 ((us : Int) + (n : Int))) = W := ⟨_, rfl⟩
  rw [hW] at hrun ⊢
  have k2 : W.cell? ⟨p, 2, none⟩ = some (.int .u64 ((la : Int) + 1)) := by rw [← hW]; simp [c2, go_sem]
  have k4 : W.cell? ⟨p, 4, none⟩ = some (.map (some m)) := by rw [← hW]; simp [c4, go_sem]
  have hsz : W.heap.size = w.heap.size := by rw [← hW]; simp [World.setCell, World.drewN]
  have k2a : ∀ o, (W.alloc o).cell? ⟨p, 2, none⟩ = some (.int .u64 ((la : Int) + 1)) := fun o => by rw [World.cell?_of_block (w := W) (a := ⟨p, 2, none⟩) (Below.heap_alloc W _ p (by omega))]; exact k2
  have k4a : ∀ o, (W.alloc o).cell? ⟨p, 4, none⟩ = some (.map (some m)) := fun o => by rw [World.cell?_of_block (w := W) (a := ⟨p, 4, none⟩) (Below.heap_alloc W _ p (by omega))]; exact k4
  have mk := fun W => make_any n hn6 W
  have HA := Lib.hid ha; clear ha
  have HT := Lib.hid ht; clear ht
  clear hW hsz
  go_region
  all_goals go_wp2
  all_goals go_ret
  all_goals exact ⟨rfl, _, ⟨_, _, HA.out, rfl⟩, HT.out⟩
end Go.Proofs.YtknefjigdlbacaaGreatDoor
namespace Go.Proofs.YtknefjigdlbacaaGreatDoor
open Go.RowKit
theorem shl_bd {i b : Int} (h0 : 0 ≤ i) (h1 : i < 8) (b0 : 0 ≤ b) (b1 : b ≤ 255) : 0 ≤ b * 2 ^ (8 * i).toNat ∧ b * 2 ^ (8 * i).toNat ≤ 18446744073709551615 := by
  rcases Ln.eight h0 h1 with rfl | rfl | rfl | rfl | rfl | rfl | rfl | rfl <;> simp <;> omega
set_option maxHeartbeats 1000000 in
theorem isPlace_yes (i : Int) (w : World) (h0 : 0 ≤ i) (h1 : i < 8) : Calls Tryz.prog 152 #[.int .i64 i] w fun e w' => e = .returned (.bool true) ∧ w = w' := by
  go_enter Tryz.func152, Tryz.ntmps152
  go_wp2
  go_ret
  exact ⟨rfl, rfl⟩
set_option maxHeartbeats 1000000 in
theorem isPlace_no (i : Int) (w : World) (h : i < 0 ∨ 8 ≤ i) : Calls Tryz.prog 152 #[.int .i64 i] w fun e w' => e = .returned (.bool false) ∧ w = w' := by
  rcases h with h | h
  · have h' : ¬ 0 ≤ i := by omega
    go_enter Tryz.func152, Tryz.ntmps152
    go_wp2
    go_ret
    exact ⟨rfl, rfl⟩
  · have h' : 0 ≤ i := by omega
    have h'' : ¬ i < 8 := by omega
    go_enter Tryz.func152, Tryz.ntmps152
    go_wp2
    go_ret
    exact ⟨rfl, rfl⟩
set_option maxHeartbeats 1000000 in
theorem isByte_yes (i : Int) (w : World) (h0 : 0 ≤ i) (h1 : i ≤ 255) : Calls Tryz.prog 153 #[.int .i64 i] w fun e w' => e = .returned (.bool true) ∧ w = w' := by
  go_enter Tryz.func153, Tryz.ntmps153
  go_wp2
  go_ret
  exact ⟨rfl, rfl⟩
set_option maxHeartbeats 1000000 in
theorem isByte_no (i : Int) (w : World) (h : i < 0 ∨ 255 < i) : Calls Tryz.prog 153 #[.int .i64 i] w fun e w' => e = .returned (.bool false) ∧ w = w' := by
  rcases h with h | h
  · have h' : ¬ 0 ≤ i := by omega
    go_enter Tryz.func153, Tryz.ntmps153
    go_wp2
    go_ret
    exact ⟨rfl, rfl⟩
  · have h' : 0 ≤ i := by omega
    have h'' : ¬ i ≤ 255 := by omega
    go_enter Tryz.func153, Tryz.ntmps153
    go_wp2
    go_ret
    exact ⟨rfl, rfl⟩
set_option maxHeartbeats 1000000 in
/-- lane.Byte. -/
theorem byte_any (x i : Int) (w : World) (hx0 : 0 ≤ x) (hx1 : x ≤ 18446744073709551615) : Calls Tryz.prog 124 #[.int .u64 x, .int .i64 i] w fun e w' => e = .returned (.int .i64 (Ln.byt x i)) ∧ w = w' := by
  by_cases h : 0 ≤ i ∧ i < 8
  · obtain ⟨h0, h1⟩ := h
    go_enter Tryz.func124, Tryz.ntmps124
    go_wp2_with (go_at_call 152; refine (isPlace_yes _ _ h0 h1).mono ?_; rintro e w' ⟨rfl, rfl⟩)
    go_ret
    refine ⟨ret_int ?_, rfl⟩
    rw [Ln.bits_byte hx0 hx1 h0 h1]
    have := Ln.byt_bd x i
    exact wrap64_small (by omega) (by omega)
  · have h' : i < 0 ∨ 8 ≤ i := by omega
    go_enter Tryz.func124, Tryz.ntmps124
    go_wp2_with (go_at_call 152; refine (isPlace_no _ _ h').mono ?_; rintro e w' ⟨rfl, rfl⟩)
    go_ret
    exact ⟨ret_int (Ln.byt_out h').symm, rfl⟩
set_option maxHeartbeats 1000000 in
/-- lane.With. -/
theorem with_any (x i b : Int) (w : World) (hx0 : 0 ≤ x) (hx1 : x ≤ 18446744073709551615) : Calls Tryz.prog 126 #[.int .u64 x, .int .i64 i, .int .i64 b] w fun e w' => e = .returned (.int .u64 (Ln.wth x i b)) ∧ w = w' := by
  by_cases h : 0 ≤ i ∧ i < 8
  · obtain ⟨h0, h1⟩ := h
    by_cases hb : 0 ≤ b ∧ b ≤ 255
    · obtain ⟨b0, b1⟩ := hb
      go_enter Tryz.func126, Tryz.ntmps126
      go_wp2_with (first | (go_at_call 152; refine (isPlace_yes _ _ h0 h1).mono ?_; rintro e w' ⟨rfl, rfl⟩) | (go_at_call 153; refine (isByte_yes _ _ b0 b1).mono ?_; rintro e w' ⟨rfl, rfl⟩))
      go_ret
      refine ⟨ret_int ?_, rfl⟩
      have e1 := u64_wrap_small (shl_bd h0 h1 (b := 255) (by omega) (by omega)).1 (shl_bd h0 h1 (b := 255) (by omega) (by omega)).2
      have e2 := u64_wrap_small (shl_bd h0 h1 b0 b1).1 (shl_bd h0 h1 b0 b1).2
      rw [e1, e2]
      exact Ln.bits_with hx0 hx1 h0 h1 b0 b1
    · have hb' : b < 0 ∨ 255 < b := by omega
      go_enter Tryz.func126, Tryz.ntmps126
      go_wp2_with (first | (go_at_call 152; refine (isPlace_yes _ _ h0 h1).mono ?_; rintro e w' ⟨rfl, rfl⟩) | (go_at_call 153; refine (isByte_no _ _ hb').mono ?_; rintro e w' ⟨rfl, rfl⟩))
      go_ret
      exact ⟨ret_int (Ln.wth_out (.inr hb')).symm, rfl⟩
  · have h' : i < 0 ∨ 8 ≤ i := by omega
    go_enter Tryz.func126, Tryz.ntmps126
    go_wp2_with (go_at_call 152; refine (isPlace_no _ _ h').mono ?_; rintro e w' ⟨rfl, rfl⟩)
    go_ret
    exact ⟨ret_int (Ln.wth_out (.inl h')).symm, rfl⟩
end Go.Proofs.YtknefjigdlbacaaGreatDoor
