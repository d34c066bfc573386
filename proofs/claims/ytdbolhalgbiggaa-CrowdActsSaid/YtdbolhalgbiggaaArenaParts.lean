/-
  How an arena lies in memory; what a change of one leaves alone; the walks of New, isMade, fault. By an AI agent.
-/
import Derived.Test.YtdbolhalgbiggaaMkBase
import Derived.Test.YtdbolhalgbiggaaArenaMath
import Derived.WalkKit
import Derived.WalkSpells
import Derived.WalkLawsBesides
import Derived.WalkMore
import Derived.WalkSmall
import Derived.Below
import Derived.Lib.Hide
import Derived.IntWalk
import Derived.OwnWalk
import Derived.Laws.OwnMore
import Derived.Laws.Cover1
import Derived.Maps.AppendAt
import Derived.Maps.OwnSet
import Derived.Maps.Ext
set_option linter.unusedSimpArgs false
namespace Go.Proofs.Ytdbolhalgbiggaa
open Go.RowKit Go.Maps
open Mm (Mem Blk)
/-- An element of the map is read as the value that it is. -/
def hv (v : Value) : Option (DataW Value × List MemPlace) := some (.held v, [])
/-- The key of a number. -/
def ky (n : Nat) : Lit := .int .u64 n
/-- The slice that a block's cells are. -/
def sl (g n : Nat) : Value := .slice (some ⟨g, 0, none⟩) n n
/-- The same, with what room it may have. -/
def sv (g n c : Nat) : Value := .slice (some ⟨g, 0, none⟩) n c
/-- The cells of words. -/
def wd (ws : List Int) : Array Value := (ws.map (Value.int .u64)).toArray
theorem law : Keyed Try.prog 22 := int_keyed Try.underlying22
theorem wf_u64 {n : Nat} (h : n < 18446744073709551616) : (Lit.int .u64 (n : Int)).wf = true := WalkArith.wf_u64 (by omega)
theorem key_u64 {n : Nat} (h : n < 18446744073709551616) : keyOf Try.prog 22 (.int .u64 (n : Int)) = some (ky n) := keyOf_int_mk Try.underlying22 (wf_u64 h)
theorem zeroS (w : World) : (zeroValue 25).run Try.prog w = .ok (.slice none 0 0) w := by kernel_rfl
/-- A block of memory: words, and what is behind them. -/
def Wd (w : World) (k : Nat) (ws : List Int) : Prop := ∃ tl : Array Value, w.heap[k]? = some (.cells (wd ws ++ tl) 22 (0, 0))
theorem Wd.keep {w w' : World} {k : Nat} {ws : List Int} (h : Wd w k ws) (e : w'.heap[k]? = w.heap[k]?) : Wd w' k ws := h.elim fun tl h => ⟨tl, e.trans h⟩
theorem Wd.lt {w : World} {k : Nat} {ws : List Int} (h : Wd w k ws) : k < w.heap.size := h.elim fun _ h => (Array.getElem?_eq_some_iff.1 h).1
theorem Wd.of {w : World} {k : Nat} {ws : List Int} (h : w.heap[k]? = some (.cells (wd ws) 22 (0, 0))) : Wd w k ws := ⟨#[], by rw [h, Array.append_empty]⟩
/-- What the map holds: just the blocks, each by its number. -/
structure Holds8 (D : DataW Value) (g : Nat → Nat) (l : List Blk) : Prop where
  has : ∀ n : Nat, Maps.has D (ky n) = (Mm.get l n).isSome
  at_ : ∀ (n : Nat) (ws : List Int), Mm.get l n = some ws → ∃ c, D.atKey (ky n) (.held (.slice none 0 0)) = .held (sv (g n) ws.length c)
structure Ar (B : Nat) (w : World) (p m : Nat) (g : Nat → Nat) (S : Mem) : Prop where
  pB : B ≤ p
  mB : B ≤ m
  own : w.heap[p]? = some (.cells #[.int .i64 (S.room : Int), .int .i64 (Mm.used S.L : Int), .int .u64 (S.last : Int), .int .i64 (S.faults : Int), .map (some m)] 60 (0, 0))
  map : ∃ n D, n ≤ S.last ∧ w.ownsMap Try.prog 22 hv m n D ∧ Holds8 D g S.L
  row : ∀ b ∈ S.L, B ≤ g b.1 ∧ Wd w (g b.1) b.2
  inj : ∀ b ∈ S.L, ∀ c ∈ S.L, g b.1 = g c.1 → b.1 = c.1
  good : Mm.Good S
/-- The blocks of memory that an arena takes. -/
def Fp (p m : Nat) (g : Nat → Nat) (S : Mem) (k : Nat) : Prop := k = p ∨ k = m ∨ ∃ b ∈ S.L, k = g b.1
def Ax (B : Nat) (w : World) (p : Nat) (S : Mem) (F : Nat → Prop) : Prop := ∃ m g, Ar B w p m g S ∧ F = Fp p m g S
/-- What a change of the blocks of F leaves alone. -/
structure Tn (F F' : Nat → Prop) (w w' : World) : Prop where
  os : w'.os = w.os
  tape : w'.tape = w.tape
  output : w'.output = w.output
  size : w.heap.size ≤ w'.heap.size
  block : ∀ k, k < w.heap.size → ¬ F k → w'.heap[k]? = w.heap[k]?
  foot : ∀ k, F' k → F k ∨ w.heap.size ≤ k
def Turns (v : Value) (B p : Nat) (S' : Mem) (F : Nat → Prop) (w : World) (e : Ending) (w' : World) : Prop := e = .returned v ∧ ∃ F', Ax B w' p S' F' ∧ Tn F F' w w'
theorem Ar.lt {B : Nat} {w : World} {p m : Nat} {g : Nat → Nat} {S : Mem} (h : Ar B w p m g S) : p < w.heap.size := (Array.getElem?_eq_some_iff.1 h.own).1
theorem Ar.ltm {B : Nat} {w : World} {p m : Nat} {g : Nat → Nat} {S : Mem} (h : Ar B w p m g S) : m < w.heap.size := by
  obtain ⟨n, D, _, ho, _⟩ := h.map
  exact ho.lt
theorem Ar.ltb {B : Nat} {w : World} {p m : Nat} {g : Nat → Nat} {S : Mem} (h : Ar B w p m g S) : ∀ b ∈ S.L, g b.1 < w.heap.size := fun b hb => (h.row b hb).2.lt
theorem Ar.foot {B : Nat} {w : World} {p m : Nat} {g : Nat → Nat} {S : Mem} (h : Ar B w p m g S) {k : Nat} (hk : Fp p m g S k) : B ≤ k ∧ k < w.heap.size := by
  rcases hk with rfl | rfl | ⟨b, hb, rfl⟩
  · exact ⟨h.pB, h.lt⟩
  · exact ⟨h.mB, h.ltm⟩
  · exact ⟨(h.row b hb).1, h.ltb b hb⟩
theorem Ax.foot {B : Nat} {w : World} {p : Nat} {S : Mem} {F : Nat → Prop} (h : Ax B w p S F) {k : Nat} (hk : F k) : B ≤ k ∧ k < w.heap.size := by
  obtain ⟨m, g, ha, rfl⟩ := h
  exact ha.foot hk
theorem Ax.good {B : Nat} {w : World} {p : Nat} {S : Mem} {F : Nat → Prop} (h : Ax B w p S F) : Mm.Good S := by
  obtain ⟨m, g, ha, rfl⟩ := h
  exact ha.good
theorem map_keep {w w' : World} {m n : Nat} {D : DataW Value} (h : w.ownsMap Try.prog 22 hv m n D) (hk : w'.heap[m]? = w.heap[m]?) : w'.ownsMap Try.prog 22 hv m n D := by
  obtain ⟨es, c, hb, r⟩ := h
  exact ⟨es, c, hk.trans hb, r⟩
/-- An arena outlives what leaves its blocks alone. -/
theorem Ar.keep {B : Nat} {w w' : World} {p m : Nat} {g : Nat → Nat} {S : Mem} (h : Ar B w p m g S) (hk : ∀ k, Fp p m g S k → w'.heap[k]? = w.heap[k]?) : Ar B w' p m g S := by
  refine ⟨h.pB, h.mB, (hk p (.inl rfl)).trans h.own, ?_, fun b hb => ⟨(h.row b hb).1, (h.row b hb).2.keep (hk _ (.inr (.inr ⟨b, hb, rfl⟩)))⟩, h.inj, h.good⟩
  obtain ⟨n, D, hn, ho, hh⟩ := h.map
  exact ⟨n, D, hn, map_keep ho (hk m (.inr (.inl rfl))), hh⟩
theorem Ax.keep {B : Nat} {w w' : World} {p : Nat} {S : Mem} {F : Nat → Prop} (h : Ax B w p S F) (hk : ∀ k, F k → w'.heap[k]? = w.heap[k]?) : Ax B w' p S F := by
  obtain ⟨m, g, ha, rfl⟩ := h
  exact ⟨m, g, ha.keep hk, rfl⟩
theorem Ax.below {B C : Nat} {w w' : World} {p : Nat} {S : Mem} {F : Nat → Prop} (h : Ax B w p S F) (hb : Below C w w') (hC : w.heap.size ≤ C) : Ax B w' p S F :=
  h.keep fun k hk => hb.block k (Nat.lt_of_lt_of_le (h.foot hk).2 hC)
theorem Ax.mono {B C : Nat} {w : World} {p : Nat} {S : Mem} {F : Nat → Prop} (h : Ax B w p S F) (hb : C ≤ B) : Ax C w p S F := by
  obtain ⟨m, g, ha, rfl⟩ := h
  exact ⟨m, g, ⟨Nat.le_trans hb ha.pB, Nat.le_trans hb ha.mB, ha.own, ha.map, fun b hb' => ⟨Nat.le_trans hb (ha.row b hb').1, (ha.row b hb').2⟩, ha.inj, ha.good⟩, rfl⟩
theorem Tn.of_below {F : Nat → Prop} {w w' : World} (h : Below w.heap.size w w') : Tn F F w w' :=
  ⟨h.os, h.tape, h.output, h.size, fun k hk _ => h.block k hk, fun _ hk => .inl hk⟩
theorem Tn.refl (F : Nat → Prop) (w : World) : Tn F F w w := Tn.of_below (Below.refl _ _)
theorem Tn.trans {F F' F'' : Nat → Prop} {w w' w'' : World} (h : Tn F F' w w') (h' : Tn F' F'' w' w'') : Tn F F'' w w'' :=
  ⟨h'.os.trans h.os, h'.tape.trans h.tape, h'.output.trans h.output, Nat.le_trans h.size h'.size, fun k hk hF => (h'.block k (Nat.lt_of_lt_of_le hk h.size) (fun e => (h.foot k e).elim hF (fun e2 => by omega))).trans (h.block k hk hF), fun k hk => by
    rcases h'.foot k hk with h1 | h1
    · exact h.foot k h1
    · exact .inr (Nat.le_trans h.size h1)⟩
theorem Tn.below {F F' : Nat → Prop} {w w' : World} {B : Nat} (h : Tn F F' w w') (hF : ∀ k, F k → B ≤ k) (hB : B ≤ w.heap.size) : Below B w w' :=
  ⟨h.os, h.tape, h.output, h.size, fun k hk => h.block k (by omega) (fun e => by have := hF k e; omega)⟩
/-- A row apart from F outlives a change of F, and stays apart. -/
theorem Tn.row {F F' : Nat → Prop} {w w' : World} (h : Tn F F' w w') {B n sz : Nat} {e : TypeId} {v : Value} {xs : List Value} (hr : w.ownsRow B e sz v n xs) (ha : ∀ k, v.ownBlock = some k → ¬ F k) :
    w'.ownsRow B e sz v n xs ∧ ∀ k, v.ownBlock = some k → ¬ F' k := by
  refine ⟨⟨hr.1, ?_⟩, fun k hk e => (h.foot k e).elim (ha k hk) (fun e2 => by have := (hr.lt k hk).2; omega)⟩
  rcases hr.2 with hn | ⟨g, cap, cur, rfl, hb, hgg, rest⟩
  · exact .inl hn
  · exact .inr ⟨g, cap, cur, rfl, hb, (h.block g (hr.lt g rfl).2 (ha g rfl)).trans hgg, rest⟩
/-- Another arena, apart from this one. -/
theorem Tn.other {F F' G : Nat → Prop} {w w' : World} (h : Tn F F' w w') {B p : Nat} {S : Mem} (ho : Ax B w p S G) (ha : ∀ k, G k → ¬ F k) : Ax B w' p S G ∧ ∀ k, G k → ¬ F' k :=
  ⟨ho.keep fun k hk => h.block k (ho.foot hk).2 (ha k hk), fun k hk e => (h.foot k e).elim (ha k hk) (fun e2 => by have := (ho.foot hk).2; omega)⟩
set_option maxHeartbeats 1000000 in
theorem made_any (p : Nat) (c : Int) (b : Bool) (hb : decide (0 < c) = b) (w : World) (h : w.cell? ⟨p, 0, none⟩ = some (.int .i64 c)) : Calls Try.prog 29 #[.pointer (some ⟨p, 0, none⟩)] w (Same (.bool b) w) := by
  subst hb
  go_enter Try.func29, Try.ntmps29
  go_wp2
  all_goals go_ret
  all_goals exact ⟨by simp_all, rfl⟩
set_option maxHeartbeats 1000000 in
theorem made_nil (w : World) : Calls Try.prog 29 #[.pointer none] w (Same (.bool false) w) := by
  go_enter Try.func29, Try.ntmps29
  go_wp2
  go_ret
  exact ⟨rfl, rfl⟩
set_option maxHeartbeats 1000000 in
theorem new_any (n : Nat) (h1 : 1 ≤ n) (h2 : n ≤ 65536) (w : World) : Calls Try.prog 14 #[.int .i64 (n : Int)] w fun e w' => e = .returned (.pointer (some ⟨w.heap.size + 1, 0, none⟩)) ∧
    (w.alloc (.map #[] 0)).alloc (.cells #[.int .i64 (n : Int), .int .i64 0, .int .u64 0, .int .i64 0, .map (some w.heap.size)] 60) = w' := by
  have hmm := @run_makeMap Try.prog
  go_enter Try.func14, Try.ntmps14
  go_wp2
  go_ret
  exact ⟨rfl, rfl⟩
set_option maxHeartbeats 1000000 in
theorem new_none (n : Int) (h : n < 1 ∨ 65536 < n) (w : World) : Calls Try.prog 14 #[.int .i64 n] w (Same (.pointer none) w) := by
  rcases h with h | h
  · go_enter Try.func14, Try.ntmps14
    go_wp2
    go_ret
    exact ⟨rfl, rfl⟩
  · have h' : ¬ n < 1 := by omega
    go_enter Try.func14, Try.ntmps14
    go_wp2
    go_ret
    exact ⟨rfl, rfl⟩
end Go.Proofs.Ytdbolhalgbiggaa
