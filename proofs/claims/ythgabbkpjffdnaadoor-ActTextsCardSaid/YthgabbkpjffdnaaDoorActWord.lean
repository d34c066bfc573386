/-
  The names of the kinds, and the text of an act: plain mathematics. By an AI agent.
-/
import Derived.Test.YthgabbkpjffdnaaDoorActMath
import Derived.Lib.ItoaNum
namespace Go.Proofs.YthgabbkpjffdnaaDoor
namespace Ac
/-- The name of a kind. -/
def wordOf (k : Int) : List UInt8 :=
  if k = 0 then [110, 111, 110, 101] else if k = 1 then [108, 111, 97, 100] else if k = 2 then [115, 116, 111, 114, 101] else if k = 3 then [99, 97, 115] else if k = 4 then [97, 100, 100] else if k = 5 then [97, 108, 108, 111, 99] else [102, 114, 101, 101]
/-- A number's part of a text. -/
def part (f : Bool) (l : List UInt8) : List UInt8 := if f then 32 :: l else []
/-- The text of an act that may be. -/
def text (x : A) : List UInt8 := wordOf x.k ++ part (fb x.k) (Lib.decDigits x.b) ++ part (fc x.k) (Lib.decDigits x.c.toNat) ++ part (fo x.k) (Lib.decDigits x.o) ++ part (fn x.k) (Lib.decDigits x.n)
end Ac
end Go.Proofs.YthgabbkpjffdnaaDoor
