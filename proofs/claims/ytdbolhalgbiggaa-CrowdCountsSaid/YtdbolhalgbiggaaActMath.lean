/-
  The plain mathematics of acts: which may be, and what they write. No program in it. By an AI agent.
-/
namespace Go.Proofs.Ytdbolhalgbiggaa
namespace Ac
/-- An act: its kind, block, cell, old and new word. -/
structure A where
  k : Int
  b : Nat
  c : Int
  o : Nat
  n : Nat
/-- Is there such a kind? -/
def known (k : Int) : Bool := decide (0 ≤ k) && decide (k ≤ 6)
/-- Which fields has a kind? -/
def fb (k : Int) : Bool := k == 1 || k == 2 || k == 3 || k == 4 || k == 6
def fc (k : Int) : Bool := decide (1 ≤ k) && decide (k ≤ 5)
def fo (k : Int) : Bool := k == 3
def fn (k : Int) : Bool := k == 2 || k == 3 || k == 4
/-- May an act be? -/
def right (x : A) : Bool := known x.k && decide (0 ≤ x.c) && !(x.k == 5 && x.c == 0) && (x.b == 0 || fb x.k) && (x.c == 0 || fc x.k) && (x.o == 0 || fo x.k) && (x.n == 0 || fn x.k)
/-- Does it write? -/
def writes (x : A) : Bool := fn x.k && right x
theorem kinds {k : Int} (h : known k = true) : k = 0 ∨ k = 1 ∨ k = 2 ∨ k = 3 ∨ k = 4 ∨ k = 5 ∨ k = 6 := by
  simp [known] at h; omega
end Ac
end Go.Proofs.Ytdbolhalgbiggaa
