/-
  Several texts in one: How an arena lies in memory; what a change of one leaves alone; the walks of New, isMade, fault; How an act lies in memory; the walk of fieldsOf; Two acts, compared; a maker as a block. By an AI agent.
-/
import Derived.Test.YtknefjigdlbacaaGreatDoorSkGAE
import Derived.WalkKit
import Derived.WalkSpells
import Derived.WalkLawsBesides
import Derived.WalkMore
import Derived.WalkSmall
import Derived.Below
import Derived.Lib.Hide
import Derived.IntWalk
import Derived.OwnWalk
import Derived.Laws.OwnMore
import Derived.Laws.Cover1
import Derived.Maps.AppendAt
import Derived.Maps.OwnSet
import Derived.Maps.Ext
import Derived.Test.YtknefjigdlbacaaGreatDoorSkGAA
import Derived.Laws.StructEq
import Derived.BigQuiet
set_option linter.unusedSimpArgs false
namespace Go.Proofs.YtknefjigdlbacaaGreatDoor
open Go.RowKit Go.Maps
open Mm (Mem Blk)
/-- An element of the map is read as the value that it is. -/
def hv (v : Value) : Option (DataW Value × List MemPlace) := some (.held v, [])
/-- The key of a number. -/
def ky (n : Nat) : Lit := .int .u64 n
/-- The slice that a block's cells are. -/
def sl (g n : Nat) : Value := .slice (some ⟨g, 0, none⟩) n n
/-- The same, with what room it may have. -/
def sv (g n c : Nat) : Value := .slice (some ⟨g, 0, none⟩) n c
/-- The cells of words. -/
def wd (ws : List Int) : Array Value := (ws.map (Value.int .u64)).toArray
theorem law : Keyed Tryz.prog 22 := int_keyed Tryz.underlying22
theorem wf_u64 {n : Nat} (h : n < 18446744073709551616) : (Lit.int .u64 (n : Int)).wf = true := WalkArith.wf_u64 (by omega)
theorem key_u64 {n : Nat} (h : n < 18446744073709551616) : keyOf Tryz.prog 22 (.int .u64 (n : Int)) = some (ky n) := keyOf_int_mk Tryz.underlying22 (wf_u64 h)
theorem zeroS (w : World) : (zeroValue 29).run Tryz.prog w = .ok (.slice none 0 0) w := by kernel_rfl
/-- A block of memory: words, and what is behind them. -/
def Wd (w : World) (k : Nat) (ws : List Int) : Prop := ∃ tl : Array Value, w.heap[k]? = some (.cells (wd ws ++ tl) 22 (0, 0))
theorem Wd.keep {w w' : World} {k : Nat} {ws : List Int} (h : Wd w k ws) (e : w'.heap[k]? = w.heap[k]?) : Wd w' k ws := h.elim fun tl h => ⟨tl, e.trans h⟩
theorem Wd.lt {w : World} {k : Nat} {ws : List Int} (h : Wd w k ws) : k < w.heap.size := h.elim fun _ h => (Array.getElem?_eq_some_iff.1 h).1
theorem Wd.of {w : World} {k : Nat} {ws : List Int} (h : w.heap[k]? = some (.cells (wd ws) 22 (0, 0))) : Wd w k ws := ⟨#[], by rw [h, Array.append_empty]⟩
/-- What the map holds: just the blocks, each by its number. -/
structure Holds8 (D : DataW Value) (g : Nat → Nat) (l : List Blk) : Prop where
  has : ∀ n : Nat, Maps.has D (ky n) = (Mm.get l n).isSome
  at_ : ∀ (n : Nat) (ws : List Int), Mm.get l n = some ws → ∃ c, D.atKey (ky n) (.held (.slice none 0 0)) = .held (sv (g n) ws.length c)
structure Ar (B : Nat) (w : World) (p m : Nat) (g : Nat → Nat) (S : Mem) : Prop where
  pB : B ≤ p
  mB : B ≤ m
  own : w.heap[p]? = some (.cells #[.int .i64 (S.room : Int), .int .i64 (Mm.used S.L : Int), .int .u64 (S.last : Int), .int .i64 (S.faults : Int), .map (some m)] 112 (0, 0))
  map : ∃ n D, n ≤ S.last ∧ w.ownsMap Tryz.prog 22 hv m n D ∧ Holds8 D g S.L
  row : ∀ b ∈ S.L, B ≤ g b.1 ∧ Wd w (g b.1) b.2
  inj : ∀ b ∈ S.L, ∀ c ∈ S.L, g b.1 = g c.1 → b.1 = c.1
  good : Mm.Good S
/-- The blocks of memory that an arena takes. -/
def Fp (p m : Nat) (g : Nat → Nat) (S : Mem) (k : Nat) : Prop := k = p ∨ k = m ∨ ∃ b ∈ S.L, k = g b.1
def Ax (B : Nat) (w : World) (p : Nat) (S : Mem) (F : Nat → Prop) : Prop := ∃ m g, Ar B w p m g S ∧ F = Fp p m g S
/-- What a change of the blocks of F leaves alone. -/
structure Tn (F F' : Nat → Prop) (w w' : World) : Prop where
  os : w'.os = w.os
  tape : w'.tape = w.tape
  output : w'.output = w.output
  size : w.heap.size ≤ w'.heap.size
  block : ∀ k, k < w.heap.size → ¬ F k → w'.heap[k]? = w.heap[k]?
  foot : ∀ k, F' k → F k ∨ w.heap.size ≤ k
def Turns (v : Value) (B p : Nat) (S' : Mem) (F : Nat → Prop) (w : World) (e : Ending) (w' : World) : Prop := e = .returned v ∧ ∃ F', Ax B w' p S' F' ∧ Tn F F' w w'
theorem Ar.lt {B : Nat} {w : World} {p m : Nat} {g : Nat → Nat} {S : Mem} (h : Ar B w p m g S) : p < w.heap.size := (Array.getElem?_eq_some_iff.1 h.own).1
theorem Ar.ltm {B : Nat} {w : World} {p m : Nat} {g : Nat → Nat} {S : Mem} (h : Ar B w p m g S) : m < w.heap.size := by
  obtain ⟨n, D, _, ho, _⟩ := h.map
  exact ho.lt
theorem Ar.ltb {B : Nat} {w : World} {p m : Nat} {g : Nat → Nat} {S : Mem} (h : Ar B w p m g S) : ∀ b ∈ S.L, g b.1 < w.heap.size := fun b hb => (h.row b hb).2.lt
theorem Ar.foot {B : Nat} {w : World} {p m : Nat} {g : Nat → Nat} {S : Mem} (h : Ar B w p m g S) {k : Nat} (hk : Fp p m g S k) : B ≤ k ∧ k < w.heap.size := by
  rcases hk with rfl | rfl | ⟨b, hb, rfl⟩
  · exact ⟨h.pB, h.lt⟩
  · exact ⟨h.mB, h.ltm⟩
  · exact ⟨(h.row b hb).1, h.ltb b hb⟩
theorem Ax.foot {B : Nat} {w : World} {p : Nat} {S : Mem} {F : Nat → Prop} (h : Ax B w p S F) {k : Nat} (hk : F k) : B ≤ k ∧ k < w.heap.size := by
  obtain ⟨m, g, ha, rfl⟩ := h
  exact ha.foot hk
theorem Ax.good {B : Nat} {w : World} {p : Nat} {S : Mem} {F : Nat → Prop} (h : Ax B w p S F) : Mm.Good S := by
  obtain ⟨m, g, ha, rfl⟩ := h
  exact ha.good
theorem map_keep {w w' : World} {m n : Nat} {D : DataW Value} (h : w.ownsMap Tryz.prog 22 hv m n D) (hk : w'.heap[m]? = w.heap[m]?) : w'.ownsMap Tryz.prog 22 hv m n D := by
  obtain ⟨es, c, hb, r⟩ := h
  exact ⟨es, c, hk.trans hb, r⟩
/-- An arena outlives what leaves its blocks alone. -/
theorem Ar.keep {B : Nat} {w w' : World} {p m : Nat} {g : Nat → Nat} {S : Mem} (h : Ar B w p m g S) (hk : ∀ k, Fp p m g S k → w'.heap[k]? = w.heap[k]?) : Ar B w' p m g S := by
  refine ⟨h.pB, h.mB, (hk p (.inl rfl)).trans h.own, ?_, fun b hb => ⟨(h.row b hb).1, (h.row b hb).2.keep (hk _ (.inr (.inr ⟨b, hb, rfl⟩)))⟩, h.inj, h.good⟩
  obtain ⟨n, D, hn, ho, hh⟩ := h.map
  exact ⟨n, D, hn, map_keep ho (hk m (.inr (.inl rfl))), hh⟩
theorem Ax.keep {B : Nat} {w w' : World} {p : Nat} {S : Mem} {F : Nat → Prop} (h : Ax B w p S F) (hk : ∀ k, F k → w'.heap[k]? = w.heap[k]?) : Ax B w' p S F := by
  obtain ⟨m, g, ha, rfl⟩ := h
  exact ⟨m, g, ha.keep hk, rfl⟩
theorem Ax.below {B C : Nat} {w w' : World} {p : Nat} {S : Mem} {F : Nat → Prop} (h : Ax B w p S F) (hb : Below C w w') (hC : w.heap.size ≤ C) : Ax B w' p S F :=
  h.keep fun k hk => hb.block k (Nat.lt_of_lt_of_le (h.foot hk).2 hC)
theorem Ax.mono {B C : Nat} {w : World} {p : Nat} {S : Mem} {F : Nat → Prop} (h : Ax B w p S F) (hb : C ≤ B) : Ax C w p S F := by
  obtain ⟨m, g, ha, rfl⟩ := h
  exact ⟨m, g, ⟨Nat.le_trans hb ha.pB, Nat.le_trans hb ha.mB, ha.own, ha.map, fun b hb' => ⟨Nat.le_trans hb (ha.row b hb').1, (ha.row b hb').2⟩, ha.inj, ha.good⟩, rfl⟩
theorem Tn.of_below {F : Nat → Prop} {w w' : World} (h : Below w.heap.size w w') : Tn F F w w' :=
  ⟨h.os, h.tape, h.output, h.size, fun k hk _ => h.block k hk, fun _ hk => .inl hk⟩
theorem Tn.refl (F : Nat → Prop) (w : World) : Tn F F w w := Tn.of_below (Below.refl _ _)
theorem Tn.trans {F F' F'' : Nat → Prop} {w w' w'' : World} (h : Tn F F' w w') (h' : Tn F' F'' w' w'') : Tn F F'' w w'' :=
  ⟨h'.os.trans h.os, h'.tape.trans h.tape, h'.output.trans h.output, Nat.le_trans h.size h'.size, fun k hk hF => (h'.block k (Nat.lt_of_lt_of_le hk h.size) (fun e => (h.foot k e).elim hF (fun e2 => by omega))).trans (h.block k hk hF), fun k hk => by
    rcases h'.foot k hk with h1 | h1
    · exact h.foot k h1
    · exact .inr (Nat.le_trans h.size h1)⟩
theorem Tn.below {F F' : Nat → Prop} {w w' : World} {B : Nat} (h : Tn F F' w w') (hF : ∀ k, F k → B ≤ k) (hB : B ≤ w.heap.size) : Below B w w' :=
  ⟨h.os, h.tape, h.output, h.size, fun k hk => h.block k (by omega) (fun e => by have := hF k e; omega)⟩
/-- A row apart from F outlives a change of F, and stays apart. -/
theorem Tn.row {F F' : Nat → Prop} {w w' : World} (h : Tn F F' w w') {B n sz : Nat} {e : TypeId} {v : Value} {xs : List Value} (hr : w.ownsRow B e sz v n xs) (ha : ∀ k, v.ownBlock = some k → ¬ F k) :
    w'.ownsRow B e sz v n xs ∧ ∀ k, v.ownBlock = some k → ¬ F' k := by
  refine ⟨⟨hr.1, ?_⟩, fun k hk e => (h.foot k e).elim (ha k hk) (fun e2 => by have := (hr.lt k hk).2; omega)⟩
  rcases hr.2 with hn | ⟨g, cap, cur, rfl, hb, hgg, rest⟩
  · exact .inl hn
  · exact .inr ⟨g, cap, cur, rfl, hb, (h.block g (hr.lt g rfl).2 (ha g rfl)).trans hgg, rest⟩
/-- Another arena, apart from this one. -/
theorem Tn.other {F F' G : Nat → Prop} {w w' : World} (h : Tn F F' w w') {B p : Nat} {S : Mem} (ho : Ax B w p S G) (ha : ∀ k, G k → ¬ F k) : Ax B w' p S G ∧ ∀ k, G k → ¬ F' k :=
  ⟨ho.keep fun k hk => h.block k (ho.foot hk).2 (ha k hk), fun k hk e => (h.foot k e).elim (ha k hk) (fun e2 => by have := (ho.foot hk).2; omega)⟩
set_option maxHeartbeats 1000000 in
theorem made_any (p : Nat) (c : Int) (b : Bool) (hb : decide (0 < c) = b) (w : World) (h : w.cell? ⟨p, 0, none⟩ = some (.int .i64 c)) : Calls Tryz.prog 68 #[.pointer (some ⟨p, 0, none⟩)] w (Same (.bool b) w) := by
  subst hb
  go_enter Tryz.func68, Tryz.ntmps68
  go_wp2
  all_goals go_ret
  all_goals exact ⟨by simp_all, rfl⟩
set_option maxHeartbeats 1000000 in
theorem made_nil (w : World) : Calls Tryz.prog 68 #[.pointer none] w (Same (.bool false) w) := by
  go_enter Tryz.func68, Tryz.ntmps68
  go_wp2
  go_ret
  exact ⟨rfl, rfl⟩
set_option maxHeartbeats 1000000 in
theorem new_any (n : Nat) (h1 : 1 ≤ n) (h2 : n ≤ 65536) (w : World) : Calls Tryz.prog 57 #[.int .i64 (n : Int)] w fun e w' => e = .returned (.pointer (some ⟨w.heap.size + 1, 0, none⟩)) ∧
    (w.alloc (.map #[] 0)).alloc (.cells #[.int .i64 (n : Int), .int .i64 0, .int .u64 0, .int .i64 0, .map (some w.heap.size)] 112) = w' := by
  have hmm := @run_makeMap Tryz.prog
  go_enter Tryz.func57, Tryz.ntmps57
  go_wp2
  go_ret
  exact ⟨rfl, rfl⟩
set_option maxHeartbeats 1000000 in
theorem new_none (n : Int) (h : n < 1 ∨ 65536 < n) (w : World) : Calls Tryz.prog 57 #[.int .i64 n] w (Same (.pointer none) w) := by
  rcases h with h | h
  · go_enter Tryz.func57, Tryz.ntmps57
    go_wp2
    go_ret
    exact ⟨rfl, rfl⟩
  · have h' : ¬ n < 1 := by omega
    go_enter Tryz.func57, Tryz.ntmps57
    go_wp2
    go_ret
    exact ⟨rfl, rfl⟩
end Go.Proofs.YtknefjigdlbacaaGreatDoor
set_option linter.unusedSimpArgs false
namespace Go.Proofs.YtknefjigdlbacaaGreatDoor
open Go.RowKit
open Ac (A)
/-- The value of an act. -/
abbrev av (x : A) : Value := .agg #[.int .i64 x.k, .int .u64 x.b, .int .i64 x.c, .int .u64 x.o, .int .u64 x.n]
/-- The world with an act's box. -/
abbrev boxed (w : World) (x : A) : World := w.alloc (.cells #[.int .i64 x.k, .int .u64 x.b, .int .i64 x.c, .int .u64 x.o, .int .u64 x.n] 35)
theorem boxed_below (w : World) (x : A) : Below w.heap.size w (boxed w x) := (Below.refl _ _).alloc (Nat.le_refl _) _
/-- The cells of a box, in a world behind it. -/
theorem boxed_cells {w w' : World} {x : A} (h : Below (boxed w x).heap.size (boxed w x) w') : w'.cell? ⟨w.heap.size, 0, none⟩ = some (.int .i64 x.k) ∧ w'.cell? ⟨w.heap.size, 1, none⟩ = some (.int .u64 x.b) ∧ w'.cell? ⟨w.heap.size, 2, none⟩ = some (.int .i64 x.c) ∧ w'.cell? ⟨w.heap.size, 3, none⟩ = some (.int .u64 x.o) ∧ w'.cell? ⟨w.heap.size, 4, none⟩ = some (.int .u64 x.n) := by
  have hs : w.heap.size < (boxed w x).heap.size := by simp
  refine ⟨?_, ?_, ?_, ?_, ?_⟩ <;> rw [h.cell hs, World.cell?_alloc_new] <;> rfl
set_option maxRecDepth 100000 in
set_option maxHeartbeats 4000000 in
theorem fields_no (k : Int) (h : Ac.known k = false) (w : World) : Calls Tryz.prog 143 #[.int .i64 k] w (Gives (.tuple #[.agg #[.bool false, .bool false, .bool false, .bool false], .bool false]) w) := by
  have hk : ∀ n : Int, 0 ≤ n → n ≤ 6 → k ≠ n := fun n h0 h6 e => by subst e; simp [Ac.known, h0, h6] at h
  have h0 : (k == 0) = false := by simpa using hk 0 (by omega) (by omega)
  have h1 : (k == 1) = false := by simpa using hk 1 (by omega) (by omega)
  have h2 : (k == 2) = false := by simpa using hk 2 (by omega) (by omega)
  have h3 : (k == 3) = false := by simpa using hk 3 (by omega) (by omega)
  have h4 : (k == 4) = false := by simpa using hk 4 (by omega) (by omega)
  have h5 : (k == 5) = false := by simpa using hk 5 (by omega) (by omega)
  have h6 : (k == 6) = false := by simpa using hk 6 (by omega) (by omega)
  clear hk h
  go_enter Tryz.func143, Tryz.ntmps143
  go_wp2
  exact bodyPost_ret (v := .tuple #[.agg #[.bool false, .bool false, .bool false, .bool false], .bool false]) (by simp [results, Tryz.results143, go_sem]) rfl ⟨rfl, ((Below.refl _ _).alloc (Nat.le_refl _) _).alloc (by simp) _⟩
set_option maxRecDepth 100000 in
set_option maxHeartbeats 4000000 in
theorem fields_0 (w : World) : Calls Tryz.prog 143 #[.int .i64 0] w (Gives (.tuple #[.agg #[.bool false, .bool false, .bool false, .bool false], .bool true]) w) := by
  go_enter Tryz.func143, Tryz.ntmps143
  go_wp2
  exact bodyPost_ret (v := .tuple #[.agg #[.bool false, .bool false, .bool false, .bool false], .bool true]) (by simp [results, Tryz.results143, go_sem]) rfl ⟨rfl, ((Below.refl _ _).alloc (Nat.le_refl _) _).alloc (by simp) _⟩
set_option maxRecDepth 100000 in
set_option maxHeartbeats 4000000 in
theorem fields_1 (w : World) : Calls Tryz.prog 143 #[.int .i64 1] w (Gives (.tuple #[.agg #[.bool true, .bool true, .bool false, .bool false], .bool true]) w) := by
  go_enter Tryz.func143, Tryz.ntmps143
  go_wp2
  exact bodyPost_ret (v := .tuple #[.agg #[.bool true, .bool true, .bool false, .bool false], .bool true]) (by simp [results, Tryz.results143, go_sem]) rfl ⟨rfl, ((Below.refl _ _).alloc (Nat.le_refl _) _).alloc (by simp) _⟩
set_option maxRecDepth 100000 in
set_option maxHeartbeats 4000000 in
theorem fields_2 (w : World) : Calls Tryz.prog 143 #[.int .i64 2] w (Gives (.tuple #[.agg #[.bool true, .bool true, .bool false, .bool true], .bool true]) w) := by
  go_enter Tryz.func143, Tryz.ntmps143
  go_wp2
  exact bodyPost_ret (v := .tuple #[.agg #[.bool true, .bool true, .bool false, .bool true], .bool true]) (by simp [results, Tryz.results143, go_sem]) rfl ⟨rfl, ((Below.refl _ _).alloc (Nat.le_refl _) _).alloc (by simp) _⟩
set_option maxRecDepth 100000 in
set_option maxHeartbeats 4000000 in
theorem fields_3 (w : World) : Calls Tryz.prog 143 #[.int .i64 3] w (Gives (.tuple #[.agg #[.bool true, .bool true, .bool true, .bool true], .bool true]) w) := by
  go_enter Tryz.func143, Tryz.ntmps143
  go_wp2
  exact bodyPost_ret (v := .tuple #[.agg #[.bool true, .bool true, .bool true, .bool true], .bool true]) (by simp [results, Tryz.results143, go_sem]) rfl ⟨rfl, ((Below.refl _ _).alloc (Nat.le_refl _) _).alloc (by simp) _⟩
set_option maxRecDepth 100000 in
set_option maxHeartbeats 4000000 in
theorem fields_4 (w : World) : Calls Tryz.prog 143 #[.int .i64 4] w (Gives (.tuple #[.agg #[.bool true, .bool true, .bool false, .bool true], .bool true]) w) := by
  go_enter Tryz.func143, Tryz.ntmps143
  go_wp2
  exact bodyPost_ret (v := .tuple #[.agg #[.bool true, .bool true, .bool false, .bool true], .bool true]) (by simp [results, Tryz.results143, go_sem]) rfl ⟨rfl, ((Below.refl _ _).alloc (Nat.le_refl _) _).alloc (by simp) _⟩
set_option maxRecDepth 100000 in
set_option maxHeartbeats 4000000 in
theorem fields_5 (w : World) : Calls Tryz.prog 143 #[.int .i64 5] w (Gives (.tuple #[.agg #[.bool false, .bool true, .bool false, .bool false], .bool true]) w) := by
  go_enter Tryz.func143, Tryz.ntmps143
  go_wp2
  exact bodyPost_ret (v := .tuple #[.agg #[.bool false, .bool true, .bool false, .bool false], .bool true]) (by simp [results, Tryz.results143, go_sem]) rfl ⟨rfl, ((Below.refl _ _).alloc (Nat.le_refl _) _).alloc (by simp) _⟩
set_option maxRecDepth 100000 in
set_option maxHeartbeats 4000000 in
theorem fields_6 (w : World) : Calls Tryz.prog 143 #[.int .i64 6] w (Gives (.tuple #[.agg #[.bool true, .bool false, .bool false, .bool false], .bool true]) w) := by
  go_enter Tryz.func143, Tryz.ntmps143
  go_wp2
  exact bodyPost_ret (v := .tuple #[.agg #[.bool true, .bool false, .bool false, .bool false], .bool true]) (by simp [results, Tryz.results143, go_sem]) rfl ⟨rfl, ((Below.refl _ _).alloc (Nat.le_refl _) _).alloc (by simp) _⟩
/-- ████ fieldsOf. ████ -/
theorem fields_any (k : Int) (w : World) : Calls Tryz.prog 143 #[.int .i64 k] w (Gives (.tuple #[.agg #[.bool (Ac.fb k), .bool (Ac.fc k), .bool (Ac.fo k), .bool (Ac.fn k)], .bool (Ac.known k)]) w) := by
  cases h : Ac.known k with
  | false =>
    have hk : ∀ n : Int, 0 ≤ n → n ≤ 6 → k ≠ n := fun n h0 h6 e => by subst e; simp [Ac.known, h0, h6] at h
    have e0 : Ac.fb k = false := by simp [Ac.fb]; exact ⟨⟨⟨⟨hk 1 (by omega) (by omega), hk 2 (by omega) (by omega)⟩, hk 3 (by omega) (by omega)⟩, hk 4 (by omega) (by omega)⟩, hk 6 (by omega) (by omega)⟩
    have e1 : Ac.fc k = false := by simp [Ac.fc]; simp [Ac.known] at h; omega
    have e2 : Ac.fo k = false := by simp [Ac.fo]; exact hk 3 (by omega) (by omega)
    have e3 : Ac.fn k = false := by simp [Ac.fn]; exact ⟨⟨hk 2 (by omega) (by omega), hk 3 (by omega) (by omega)⟩, hk 4 (by omega) (by omega)⟩
    rw [e0, e1, e2, e3]
    exact fields_no k h w
  | true =>
    rcases Ac.kinds h with rfl | rfl | rfl | rfl | rfl | rfl | rfl
    · exact fields_0 w
    · exact fields_1 w
    · exact fields_2 w
    · exact fields_3 w
    · exact fields_4 w
    · exact fields_5 w
    · exact fields_6 w
end Go.Proofs.YtknefjigdlbacaaGreatDoor
set_option linter.unusedSimpArgs false
set_option linter.unusedVariables false
namespace Go.Proofs.YtknefjigdlbacaaGreatDoor
open Go.RowKit
open Ac (A)
/-- Are two acts one? -/
def eqB (a0 a1 a2 a3 a4 b0 b1 b2 b3 b4 : Int) : Bool := a0 == b0 && (a1 == b1 && (a2 == b2 && (a3 == b3 && a4 == b4)))
set_option maxRecDepth 100000 in
theorem flds : (Tryz.prog.fieldsOf 35).toList.map (fun f => (f.name, f.type, f.offset)) = [("Kind", 3, 0), ("Block", 22, 1), ("Cell", 3, 2), ("Old", 22, 3), ("New", 22, 4)] := by kernel_rfl
set_option maxRecDepth 100000 in
set_option maxHeartbeats 1000000 in
theorem eq_act (a0 a1 a2 a3 a4 b0 b1 b2 b3 b4 : Int) : ∀ w : World, (binOp .eql 35 (.agg #[.int .i64 a0, .int .u64 a1, .int .i64 a2, .int .u64 a3, .int .u64 a4]) (.agg #[.int .i64 b0, .int .u64 b1, .int .i64 b2, .int .u64 b3, .int .u64 b4])).run Tryz.prog w = .ok (.bool (eqB a0 a1 a2 a3 a4 b0 b1 b2 b3 b4)) w := fun w => by
  rw [run_eql_struct, run_equalIn_agg _ _ _ _ _ (by kernel_rfl) (by kernel_rfl)]
  rcases hf : (Tryz.prog.fieldsOf 35).toList with _ | ⟨f0, _ | ⟨f1, _ | ⟨f2, _ | ⟨f3, _ | ⟨f4, _ | ⟨f5, r⟩⟩⟩⟩⟩⟩
  all_goals (have hfl := flds; rw [hf] at hfl; simp at hfl)
  obtain ⟨⟨n0, t0, o0⟩, ⟨n1, t1, o1⟩, ⟨n2, t2, o2⟩, ⟨n3, t3, o3⟩, n4, t4, o4⟩ := hfl
  simp only [Op.eqFields, n0, t0, o0, n1, t1, o1, n2, t2, o2, n3, t3, o3, n4, t4, o4]
  unfold eqB
  by_cases h0 : a0 = b0 <;> by_cases h1 : a1 = b1 <;> by_cases h2 : a2 = b2 <;> by_cases h3 : a3 = b3 <;> by_cases h4 : a4 = b4 <;>
    simp [go_sem, Tryz.underlying3, Tryz.underlying22, Tryz.isAgg3, Tryz.isAgg22, h0, h1, h2, h3, h4]
theorem ne_act (a0 a1 a2 a3 a4 b0 b1 b2 b3 b4 : Int) : ∀ w : World, (binOp .neq 35 (.agg #[.int .i64 a0, .int .u64 a1, .int .i64 a2, .int .u64 a3, .int .u64 a4]) (.agg #[.int .i64 b0, .int .u64 b1, .int .i64 b2, .int .u64 b3, .int .u64 b4])).run Tryz.prog w = .ok (.bool (!eqB a0 a1 a2 a3 a4 b0 b1 b2 b3 b4)) w := fun w => by
  have h := eq_act a0 a1 a2 a3 a4 b0 b1 b2 b3 b4 w
  rw [run_eql_struct] at h
  rw [run_neq_struct]
  revert h
  cases (Op.equalIn 10000 35 (.agg #[.int .i64 a0, .int .u64 a1, .int .i64 a2, .int .u64 a3, .int .u64 a4]) (.agg #[.int .i64 b0, .int .u64 b1, .int .i64 b2, .int .u64 b3, .int .u64 b4])).run Tryz.prog w with
  | ok v w' => cases v <;> simp_all [Result.andThen]
  | _ => simp [Result.andThen]
/-- A maker as a block. -/
def Mk (w : World) (q : Nat) (f x : A) (ad : Option Addr) (n c b : Nat) : Prop := w.heap[q]? = some (.cells #[.int .i64 f.k, .int .u64 f.b, .int .i64 f.c, .int .u64 f.o, .int .u64 f.n, .int .i64 x.k, .int .u64 x.b, .int .i64 x.c, .int .u64 x.o, .int .u64 x.n, .slice ad n c, .int .u64 b] 153 (0, 0))
section
variable {w w' : World} {q n c b : Nat} {f x : A} {ad : Option Addr}
theorem Mk.lt (h : Mk w q f x ad n c b) : q < w.heap.size := (Array.getElem?_eq_some_iff.1 h).1
theorem Mk.keep (h : Mk w q f x ad n c b) (e : w'.heap[q]? = w.heap[q]?) : Mk w' q f x ad n c b := e.trans h
theorem Mk.below (h : Mk w q f x ad n c b) (hb : Below w.heap.size w w') : Mk w' q f x ad n c b := h.keep (hb.block q h.lt)
theorem Mk.fz (h : Mk w q f x ad n c b) (i : Nat) : w.frozen? ⟨q, i, none⟩ = false := by simp [World.frozen?, show w.heap[q]? = _ from h]
theorem Mk.c0 (h : Mk w q f x ad n c b) : w.cell? ⟨q, 0, none⟩ = some (.int .i64 f.k) := by simp [World.cell?, show w.heap[q]? = _ from h]
theorem Mk.c1 (h : Mk w q f x ad n c b) : w.cell? ⟨q, 1, none⟩ = some (.int .u64 (f.b : Int)) := by simp [World.cell?, show w.heap[q]? = _ from h]
theorem Mk.c2 (h : Mk w q f x ad n c b) : w.cell? ⟨q, 2, none⟩ = some (.int .i64 f.c) := by simp [World.cell?, show w.heap[q]? = _ from h]
theorem Mk.c3 (h : Mk w q f x ad n c b) : w.cell? ⟨q, 3, none⟩ = some (.int .u64 (f.o : Int)) := by simp [World.cell?, show w.heap[q]? = _ from h]
theorem Mk.c4 (h : Mk w q f x ad n c b) : w.cell? ⟨q, 4, none⟩ = some (.int .u64 (f.n : Int)) := by simp [World.cell?, show w.heap[q]? = _ from h]
theorem Mk.c5 (h : Mk w q f x ad n c b) : w.cell? ⟨q, 5, none⟩ = some (.int .i64 x.k) := by simp [World.cell?, show w.heap[q]? = _ from h]
theorem Mk.c6 (h : Mk w q f x ad n c b) : w.cell? ⟨q, 6, none⟩ = some (.int .u64 (x.b : Int)) := by simp [World.cell?, show w.heap[q]? = _ from h]
theorem Mk.c7 (h : Mk w q f x ad n c b) : w.cell? ⟨q, 7, none⟩ = some (.int .i64 x.c) := by simp [World.cell?, show w.heap[q]? = _ from h]
theorem Mk.c8 (h : Mk w q f x ad n c b) : w.cell? ⟨q, 8, none⟩ = some (.int .u64 (x.o : Int)) := by simp [World.cell?, show w.heap[q]? = _ from h]
theorem Mk.c9 (h : Mk w q f x ad n c b) : w.cell? ⟨q, 9, none⟩ = some (.int .u64 (x.n : Int)) := by simp [World.cell?, show w.heap[q]? = _ from h]
theorem Mk.c10 (h : Mk w q f x ad n c b) : w.cell? ⟨q, 10, none⟩ = some (.slice ad n c) := by simp [World.cell?, show w.heap[q]? = _ from h]
theorem Mk.c11 (h : Mk w q f x ad n c b) : w.cell? ⟨q, 11, none⟩ = some (.int .u64 (b : Int)) := by simp [World.cell?, show w.heap[q]? = _ from h]
end
/-- Is an act none? -/
def isz (x : A) : Bool := eqB x.k x.b x.c x.o x.n 0 0 0 0 0
theorem mact_nil (w : World) : Calls Tryz.prog 186 #[.pointer none] w (Gives (.tuple #[av ⟨0, 0, 0, 0, 0⟩, .bool false]) w) := by
  go_enter Tryz.func186, Tryz.ntmps186
  go_wp2
  exact bodyPost_ret (v := .tuple #[av ⟨0, 0, 0, 0, 0⟩, .bool false]) (by simp [results, Tryz.results186, go_sem]) rfl ⟨rfl, (Below.refl _ w).alloc (Nat.le_refl _) _⟩
set_option maxRecDepth 100000 in
set_option maxHeartbeats 4000000 in
theorem mact_any (w : World) (q n c b : Nat) (f x : A) (ad : Option Addr) (h : Mk w q f x ad n c b) : Calls Tryz.prog 186 #[.pointer (some ⟨q, 0, none⟩)] w (Gives (.tuple #[av x, .bool (!isz x)]) w) := by
  have hb : ∀ o, Below w.heap.size w (w.alloc o) := fun o => (Below.refl _ w).alloc (Nat.le_refl _) _
  have c5 := fun o => (h.below (hb o)).c5
  have c6 := fun o => (h.below (hb o)).c6
  have c7 := fun o => (h.below (hb o)).c7
  have c8 := fun o => (h.below (hb o)).c8
  have c9 := fun o => (h.below (hb o)).c9
  obtain ⟨xk, xb, xc, xo, xn⟩ := x
  unfold isz
  dsimp only at c5 c6 c7 c8 c9 ⊢
  have q1 := ne_act xk xb xc xo xn 0 0 0 0 0
  generalize (!eqB xk xb xc xo xn 0 0 0 0 0) = t at *
  have HB := Lib.hid hb; clear hb
  clear h
  go_enter Tryz.func186, Tryz.ntmps186
  go_wp2
  go_region
  all_goals go_wp2
  all_goals exact bodyPost_ret (v := .tuple #[av ⟨xk, xb, xc, xo, xn⟩, .bool t]) (by simp [results, Tryz.results186, go_sem]) rfl ⟨rfl, (((Below.refl _ w).alloc (Nat.le_refl _) _).drew)⟩
theorem mres_nil (w : World) : Calls Tryz.prog 63 #[.pointer none] w (Same (.tuple #[.int .u64 0, .bool false]) w) := by
  go_enter Tryz.func63, Tryz.ntmps63
  go_wp2
  go_ret2
  exact ⟨rfl, rfl⟩
set_option maxRecDepth 100000 in
set_option maxHeartbeats 4000000 in
/-- Result: the block's number, once no act comes any more. -/
theorem mres_any (w : World) (q n c b : Nat) (f x : A) (ad : Option Addr) (h : Mk w q f x ad n c b) : Calls Tryz.prog 63 #[.pointer (some ⟨q, 0, none⟩)] w (Same (if !isz f && isz x then .tuple #[.int .u64 b, .bool true] else .tuple #[.int .u64 0, .bool false]) w) := by
  have c0 := h.c0
  have c1 := h.c1
  have c2 := h.c2
  have c3 := h.c3
  have c4 := h.c4
  have c5 := h.c5
  have c6 := h.c6
  have c7 := h.c7
  have c8 := h.c8
  have c9 := h.c9
  have c11 := h.c11
  clear h
  obtain ⟨xk, xb, xc, xo, xn⟩ := x
  obtain ⟨fk, fb, fc, fo, fn⟩ := f
  unfold isz
  dsimp only at c0 c1 c2 c3 c4 c5 c6 c7 c8 c9 ⊢
  have q1 := eq_act fk fb fc fo fn 0 0 0 0 0
  have q2 := ne_act xk xb xc xo xn 0 0 0 0 0
  cases e1 : eqB fk fb fc fo fn 0 0 0 0 0 <;> cases e2 : eqB xk xb xc xo xn 0 0 0 0 0 <;> rw [e1] at q1 <;> rw [e2] at q2 <;> clear e1 e2 <;> simp only [Bool.not_true, Bool.not_false, Bool.and_true, Bool.and_false, Bool.false_and, Bool.true_and, if_true, if_false, Bool.false_eq_true] at q2 ⊢
  all_goals
    go_enter Tryz.func63, Tryz.ntmps63
    go_wp2
    go_ret2
    exact ⟨rfl, rfl⟩
end Go.Proofs.YtknefjigdlbacaaGreatDoor
