/-
  A tape's Load and Cas, and rests of lists. By an AI agent.
-/
import Derived.Test.YtknefjigdlbacaaGreatDoorSkFBM
import Derived.Test.YtknefjigdlbacaaGreatDoorSkFBI
set_option linter.unusedSimpArgs false
set_option linter.unusedVariables false
namespace Go.Proofs.YtknefjigdlbacaaGreatDoor
open Go.RowKit Go.Maps
open Ac (A)
section
variable {B : Nat} {w w' : World} {t c k : Nat} {ad : Option Addr} {gs : List Nat} {x : A}
set_option maxHeartbeats 1000000 in
theorem tload_any (b i : Nat) (h : Ts B w t ad gs c k x) (hx : k = gs.length → ⟨1, b, (i : Int), 0, 0⟩ = x) (hm : gs.length ≤ 1000000) : Calls Tryz.prog 47 #[.pointer (some ⟨t, 0, none⟩), .int .u64 (b : Int), .int .i64 (i : Int)] w fun e w' => e = .returned (.int .u64 ((gs.getD k 0 : Nat) : Int)) ∧ Ts B w' t ad gs c (k + 1) x ∧ Chg t w w' := by
  have K := Lib.hid (show Calls Tryz.prog 53 #[.pointer (some ⟨t, 0, none⟩), .agg #[.int .i64 1, .int .u64 (b : Int), .int .i64 (i : Int), .int .u64 0, .int .u64 0]] w fun e w' => e = .returned (.int .u64 ((gs.getD k 0 : Nat) : Int)) ∧ Ts B w' t ad gs c (k + 1) x ∧ Chg t w w' from tdo_any (y := ⟨1, b, (i : Int), 0, 0⟩) h hx hm)
  clear h hx
  generalize gs.getD k 0 = y at *
  go_enter Tryz.func47, Tryz.ntmps47
  go_wp2_with fail
  with_reducible refine K.out.mono ?_
  rintro e w' ⟨rfl, h1, h2⟩
  have H1 := Lib.hid h1
  have H2 := Lib.hid h2
  clear h1 h2
  go_wp2
  go_ret
  exact ⟨rfl, H1.out, H2.out⟩
set_option maxHeartbeats 1000000 in
theorem tcas_any (b i o n : Nat) (h : Ts B w t ad gs c k x) (hx : k = gs.length → ⟨3, b, (i : Int), o, n⟩ = x) (hm : gs.length ≤ 1000000) : Calls Tryz.prog 52 #[.pointer (some ⟨t, 0, none⟩), .int .u64 (b : Int), .int .i64 (i : Int), .int .u64 (o : Int), .int .u64 (n : Int)] w fun e w' => e = .returned (.int .u64 ((gs.getD k 0 : Nat) : Int)) ∧ Ts B w' t ad gs c (k + 1) x ∧ Chg t w w' := by
  have K := Lib.hid (show Calls Tryz.prog 53 #[.pointer (some ⟨t, 0, none⟩), .agg #[.int .i64 3, .int .u64 (b : Int), .int .i64 (i : Int), .int .u64 (o : Int), .int .u64 (n : Int)]] w fun e w' => e = .returned (.int .u64 ((gs.getD k 0 : Nat) : Int)) ∧ Ts B w' t ad gs c (k + 1) x ∧ Chg t w w' from tdo_any (y := ⟨3, b, (i : Int), o, n⟩) h hx hm)
  clear h hx
  generalize gs.getD k 0 = y at *
  go_enter Tryz.func52, Tryz.ntmps52
  go_wp2_with fail
  with_reducible refine K.out.mono ?_
  rintro e w' ⟨rfl, h1, h2⟩
  have H1 := Lib.hid h1
  have H2 := Lib.hid h2
  clear h1 h2
  go_wp2
  go_ret
  exact ⟨rfl, H1.out, H2.out⟩
end
theorem getD_drop (l : List Nat) (k j : Nat) : (l.drop k).getD j 0 = l.getD (k + j) 0 := by
  rw [List.getD_eq_getElem?_getD, List.getD_eq_getElem?_getD, List.getElem?_drop]
/-- A block aside. -/
structure Aside (F : Nat → Prop) (w : World) (z : Nat) (o : Obj) : Prop where
  at' : w.heap[z]? = some o
  apart : ¬ F z
theorem Aside.lt {F : Nat → Prop} {w : World} {z : Nat} {o : Obj} (h : Aside F w z o) : z < w.heap.size := (Array.getElem?_eq_some_iff.1 h.at').1
theorem Aside.tn {F F' : Nat → Prop} {w w' : World} {z : Nat} {o : Obj} (h : Aside F w z o) (ht : Tn F F' w w') : Aside F' w' z o :=
  ⟨(ht.block z h.lt h.apart).trans h.at', fun e => (ht.foot z e).elim h.apart (fun e2 => by have := h.lt; omega)⟩
theorem Aside.below {F : Nat → Prop} {w w' : World} {z : Nat} {o : Obj} (h : Aside F w z o) (hb : Below w.heap.size w w') : Aside F w' z o := h.tn (Tn.of_below hb)
theorem Aside.cell {F : Nat → Prop} {w : World} {z : Nat} {cs : Array Value} {t : TypeId} {zz : Nat × Nat} (h : Aside F w z (.cells cs t zz)) (i : Nat) {v : Value} (hv : cs[i]? = some v) : w.cell? ⟨z, i, none⟩ = some v := by
  simp [World.cell?, h.at', hv]
/-- The cells of a site. -/
abbrev siteC (d t n k s : Int) : Array Value := #[.int .u64 d, .int .i64 t, .int .i64 n, .int .i64 k, .int .u64 s]
end Go.Proofs.YtknefjigdlbacaaGreatDoor
