/-
  What the chapter's example comes to; new routines, new arenas. By an AI agent.
-/
import Derived.Test.YthldjdkjgiebaaaDriveRun
set_option linter.unusedSimpArgs false
set_option linter.unusedVariables false
namespace Go.Proofs.Ythldjdkjgiebaaa
open Go.RowKit Go.Maps
open Mm (Mem Blk)
open Ac (A)
/-- The acts of the example. -/
def xsA (_ : Nat) (j : Nat) : A := ⟨5, 0, (j : Int) + 1, 0, 0⟩
def whoA (k : Nat) : Nat := if k = 1 then 1 else 0
abbrev m1 : Mem := ⟨20, 1, 0, [(1, [0])]⟩
abbrev m2 : Mem := ⟨20, 2, 0, [(1, [0]), (2, [0])]⟩
abbrev m3 : Mem := ⟨20, 3, 0, [(1, [0]), (2, [0]), (3, [0, 0])]⟩
theorem g1 : nxv (s0 20) ⟨5, 0, 1, 0, 0⟩ = (1, m1) := by rw [nxv_gets ⟨rfl, by decide, by decide, by simp [Mm.used]⟩]; rfl
theorem g2 : nxv m1 ⟨5, 0, 1, 0, 0⟩ = (2, m2) := by rw [nxv_gets ⟨rfl, by decide, by decide, by simp [Mm.used]⟩]; rfl
theorem g3 : nxv m2 ⟨5, 0, 2, 0, 0⟩ = (3, m3) := by rw [nxv_gets ⟨rfl, by decide, by decide, by simp [Mm.used]⟩]; rfl
theorem awake_ts : (rn (fun _ => 2) xsA whoA (s0 20) 4).ts = [(0, ⟨5, 0, 1, 0, 0⟩, 1), (1, ⟨5, 0, 1, 0, 0⟩, 2), (0, ⟨5, 0, 2, 0, 0⟩, 3)] := by
  have h1 : rn (fun _ => 2) xsA whoA (s0 20) 1 = ⟨m1, upd (fun _ => []) 0 [1], [(0, ⟨5, 0, 1, 0, 0⟩, 1)]⟩ := by
    show stepRu (fun _ => 2) xsA (whoA 0) ⟨s0 20, fun _ => [], []⟩ = _
    rw [stepRu_more (by simp)]
    simp only [whoA, List.length_nil, xsA]
    simp [g1]
  have h2 : rn (fun _ => 2) xsA whoA (s0 20) 2 = ⟨m2, upd (upd (fun _ => []) 0 [1]) 1 [2], [(0, ⟨5, 0, 1, 0, 0⟩, 1), (1, ⟨5, 0, 1, 0, 0⟩, 2)]⟩ := by
    show stepRu (fun _ => 2) xsA (whoA 1) (rn (fun _ => 2) xsA whoA (s0 20) 1) = _
    rw [h1, stepRu_more (by simp [whoA, upd])]
    simp [whoA, xsA, upd, g2]
  have h3 : rn (fun _ => 2) xsA whoA (s0 20) 3 = ⟨m3, upd (upd (upd (fun _ => []) 0 [1]) 1 [2]) 0 [1, 3], [(0, ⟨5, 0, 1, 0, 0⟩, 1), (1, ⟨5, 0, 1, 0, 0⟩, 2), (0, ⟨5, 0, 2, 0, 0⟩, 3)]⟩ := by
    show stepRu (fun _ => 2) xsA (whoA 2) (rn (fun _ => 2) xsA whoA (s0 20) 2) = _
    rw [h2, stepRu_more (by simp [whoA, upd])]
    simp [whoA, xsA, upd, g3]
  show (stepRu (fun _ => 2) xsA (whoA 3) (rn (fun _ => 2) xsA whoA (s0 20) 3)).ts = _
  rw [h3, stepRu_none (by simp [whoA, upd])]
theorem xsA_fits (i j : Nat) (hj : j < 1000) : Fits (xsA i j) := ⟨by simp [xsA], by simp [xsA]; omega, by simp [xsA]; omega, by simp [xsA], by simp [xsA]⟩
/-- A new arena. -/
def Made (n : Nat) (w : World) (e : Ending) (w' : World) : Prop := ∃ p, e = .returned (.pointer (some ⟨p, 0, none⟩)) ∧ w.heap.size ≤ p ∧ ∃ F, Ax w.heap.size w' p (s0 n) F ∧ Below w.heap.size w w'
theorem made_new (n : Nat) (h1 : 1 ≤ n) (h2 : n ≤ 65536) (w : World) : Calls Try.prog 8 #[.int .i64 (n : Int)] w (Made n w) :=
  (new_ok n h1 h2 w).mono fun _ _ ⟨he, F, hA, hb, _⟩ => ⟨_, he, by omega, F, hA, hb⟩
/-- The value of a new routine. -/
abbrev ro0 (a : Option Addr) (N c : Nat) : Obj := .cells #[.slice a N c, .slice none 0 0] 29
theorem hp_none {q k : Nat} (h : Hp q none k) : k = q := by
  rcases h with h | h
  · exact h
  · cases h
/-- A new routine. -/
theorem ro_at {B : Nat} {w : World} {q : Nat} {a : Option Addr} {N c : Nat} (hB : B ≤ q) (h : w.heap[q]? = some (.cells #[.slice a N c, .slice none 0 0] 29 (0, 0))) : Ro B w q a N c [] (Hp q none) :=
  ⟨none, 0, ⟨hB, h, World.ownsRow_nil w B 35 1⟩, rfl⟩
/-- A routine beside an arena. -/
theorem du_new {B : Nat} {w w1 : World} {p q : Nat} {S : Mem} {a : Option Addr} {N c : Nat} {F : Nat → Prop} (hA : Ax B w p S F) (hb : Below w.heap.size w w1) (hq : w.heap.size ≤ q) (hB : B ≤ w.heap.size) (h : w1.heap[q]? = some (.cells #[.slice a N c, .slice none 0 0] 29 (0, 0))) : Du B w1 p S q a N c [] F (Hp q none) :=
  ⟨hA.below hb (Nat.le_refl _), ro_at (by omega) h, fun k hk hf => by have := (hA.foot hf).2; have := hp_none hk; omega⟩
/-- Many new routines, one behind the other, beside an arena. -/
theorem ms_new {B : Nat} {w w1 : World} {p n : Nat} {q : Nat → Nat} {S : Mem} {a : Nat → Option Addr} {N c : Nat → Nat} {F : Nat → Prop} (hA : Ax B w1 p S F) (hq : ∀ i, i < n → B ≤ q i) (hF : ∀ i, i < n → ¬ F (q i)) (hinj : ∀ i j, i < n → j < n → q i = q j → i = j)
    (h : ∀ i, i < n → w1.heap[q i]? = some (.cells #[.slice (a i) (N i) (c i), .slice none 0 0] 29 (0, 0))) : Ms B w1 p S n q a N c (fun _ => []) F (fun i => Hp (q i) none) :=
  ⟨hA, fun i hi => ro_at (hq i hi) (h i hi), fun i hi k hk => by rw [hp_none hk]; exact hF i hi, fun i j hi hj hne k hk hk' => hne (hinj i j hi hj (by rw [← hp_none hk, ← hp_none hk']))⟩
end Go.Proofs.Ythldjdkjgiebaaa
