/-
  No cell of these rows narrows 'for every input' (looked for: loops, veiled, ifaces, maps, wideKeys, modest, calm, conditions, laid).
  DERIVED. THE GIVEN ROWS OF THIS SEAT. 3 by the template 'for every input the law returns true; each argument reads behind the call as it read before'; 0 by the template 'total and deterministic' (their statements: YtmdaekiogcecmaaTotals.lean).
  GIVEN WITH THE SEED: the statements are not yours to turn. If you find one false, say at which input.
  Laid BY PROGRAM, IN A SANDBOX (cutbox-rows.mjs): the forced cells as the released guide's own fill.sh prints them over the translation b226a89d008f4f33… (all of the seat's roots in one cut). By AI agents, Wed Nov 11 2026. No macro, syntax, notation, axiom, sorry.
-/
import Derived.Test.YtmdaekiogcecmaaChecked
import GoSem.Claim
import GoSem.ClaimJoined
import GoSem.ClaimMapViews
import Derived.JoinedTies
import Derived.KernelRfl
namespace Go.Proofs.Ytmdaekiogcecmaa
/- THE CELL 'sum', in the pinned program and in every row, IS THE sha256 OF THE DUMP (.gsa) THAT YtmdaekiogcecmaaProg.lean LOADS. Nothing in Lean hashes anything: it is a label: what it is worth is what the hold of that sum in a sandbox is worth. -/
noncomputable def Try.pinned : Pinned := { name := "ytmdaekiogcecmaa", sum := "b226a89d008f4f33729f33274499d75067c019f1d45b90a61eb6e5427aa0c84c", checked := Try.checked }
namespace Rows
def none {H : Type} : Left H := { results := [], args := [] }

/-- 'sprocketlaw12.CtrlLooks': WHATEVER THE INPUT: true; the input reads as it did. -/
def ctrlLooksSpec : ChangeSpec := { name := "ctrlLooks", fn := fun _ => fun
  | [d1, d2, d3] => { results := [.lit (.bool true)], args := [d1, d2, d3] }
  | _ => none }
def ctrlLooksRow : OpenClaim := { program := "ytmdaekiogcecmaa", sum := "b226a89d008f4f33729f33274499d75067c019f1d45b90a61eb6e5427aa0c84c", func := "sprocket/sprocketlaw12.CtrlLooks", spec := "ctrlLooks", unfollowed := true, recurses := true, apart := false }
def CtrlLooksSaid : Prop := ctrlLooksRow.holds Try.pinned (OpenSpec.ofChange ctrlLooksSpec)

/-- ITS FALSE NEIGHBOUR: 'it returns false'. Refute it at one input. -/
def ctrlLooksWrong : ChangeSpec := { name := "ctrlLooks", fn := fun _ => fun
  | [d1, d2, d3] => { results := [.lit (.bool false)], args := [d1, d2, d3] }
  | _ => none }
def CtrlLooksWrongFalsely : Prop := ctrlLooksRow.holds Try.pinned (OpenSpec.ofChange ctrlLooksWrong)

/-- 'sprocketlaw12.CtrlPuts': WHATEVER THE INPUT: true; the input reads as it did. -/
def ctrlPutsSpec : ChangeSpec := { name := "ctrlPuts", fn := fun _ => fun
  | [d1, d2, d3] => { results := [.lit (.bool true)], args := [d1, d2, d3] }
  | _ => none }
def ctrlPutsRow : OpenClaim := { program := "ytmdaekiogcecmaa", sum := "b226a89d008f4f33729f33274499d75067c019f1d45b90a61eb6e5427aa0c84c", func := "sprocket/sprocketlaw12.CtrlPuts", spec := "ctrlPuts", unfollowed := true, recurses := true, apart := false }
def CtrlPutsSaid : Prop := ctrlPutsRow.holds Try.pinned (OpenSpec.ofChange ctrlPutsSpec)

/-- ITS FALSE NEIGHBOUR: 'it returns false'. Refute it at one input. -/
def ctrlPutsWrong : ChangeSpec := { name := "ctrlPuts", fn := fun _ => fun
  | [d1, d2, d3] => { results := [.lit (.bool false)], args := [d1, d2, d3] }
  | _ => none }
def CtrlPutsWrongFalsely : Prop := ctrlPutsRow.holds Try.pinned (OpenSpec.ofChange ctrlPutsWrong)

/-- 'sprocketlaw12.CtrlKeeps': WHATEVER THE INPUT: true; the input reads as it did. -/
def ctrlKeepsSpec : ChangeSpec := { name := "ctrlKeeps", fn := fun _ => fun
  | [d1, d2] => { results := [.lit (.bool true)], args := [d1, d2] }
  | _ => none }
def ctrlKeepsRow : OpenClaim := { program := "ytmdaekiogcecmaa", sum := "b226a89d008f4f33729f33274499d75067c019f1d45b90a61eb6e5427aa0c84c", func := "sprocket/sprocketlaw12.CtrlKeeps", spec := "ctrlKeeps", unfollowed := true, recurses := true, apart := false }
def CtrlKeepsSaid : Prop := ctrlKeepsRow.holds Try.pinned (OpenSpec.ofChange ctrlKeepsSpec)

/-- ITS FALSE NEIGHBOUR: 'it returns false'. Refute it at one input. -/
def ctrlKeepsWrong : ChangeSpec := { name := "ctrlKeeps", fn := fun _ => fun
  | [d1, d2] => { results := [.lit (.bool false)], args := [d1, d2] }
  | _ => none }
def CtrlKeepsWrongFalsely : Prop := ctrlKeepsRow.holds Try.pinned (OpenSpec.ofChange ctrlKeepsWrong)

/- THE SECOND FORM. 'bulk': how many values and letters a reading holds, each counted each time it is reached (what is shared counts as often as it is met; a slice's spare places count too). A statement '..UptoSaid' is the law's where the arguments, and the package variables that the reading takes, are together of bulk at most 1048576: NARROWER than '..Said'. Prove '..Said' where nothing that the law and all that it calls make is longer than what came in: it says more and counts as full. Else prove '..UptoSaid'. A law counts once. -/
mutual
def uptoBulk {H : Type} : DataW H → Nat
  | .lit (.string bytes) => bytes.length + 1
  | .lit _ => 1
  | .nil => 1
  | .ptr d => uptoBulk d + 1
  | .slice elems spare => uptoBulkAll elems + uptoBulkAll spare + 1
  | .agg parts => uptoBulkAll parts + 1
  | .iface _ d => uptoBulk d + 1
  | .map entries => uptoBulkEntries entries + 1
  | .held _ => 1
def uptoBulkAll {H : Type} : List (DataW H) → Nat
  | [] => 0
  | d :: r => uptoBulk d + uptoBulkAll r
def uptoBulkEntries {H : Type} : List (Lit × DataW H) → Nat
  | [] => 0
  | x :: r => uptoBulkEntry x + uptoBulkEntries r
def uptoBulkEntry {H : Type} : Lit × DataW H → Nat
  | (.string bytes, d) => bytes.length + uptoBulk d + 1
  | (_, d) => uptoBulk d + 1
 end
def uptoSmall : (H : Type) → List (DataW H) → Bool := fun _ ds => decide (uptoBulkAll ds ≤ 1048576)
def OpenSpec.upto (s : _root_.Go.ChangeSpec) : _root_.Go.OpenSpec := { _root_.Go.OpenSpec.ofChange s with cond := some uptoSmall }

/-- 'sprocketlaw12.CtrlLooks', WHERE WHAT IT READS IS OF BULK AT MOST 1048576: true; the input reads as it did. -/
def ctrlLooksUptoRow : OpenClaim := { program := "ytmdaekiogcecmaa", sum := "b226a89d008f4f33729f33274499d75067c019f1d45b90a61eb6e5427aa0c84c", func := "sprocket/sprocketlaw12.CtrlLooks", spec := "ctrlLooks", unfollowed := true, recurses := true, apart := false, narrowed := true }
def CtrlLooksUptoSaid : Prop := ctrlLooksUptoRow.holds Try.pinned (OpenSpec.upto ctrlLooksSpec)

/-- 'sprocketlaw12.CtrlPuts', WHERE WHAT IT READS IS OF BULK AT MOST 1048576: true; the input reads as it did. -/
def ctrlPutsUptoRow : OpenClaim := { program := "ytmdaekiogcecmaa", sum := "b226a89d008f4f33729f33274499d75067c019f1d45b90a61eb6e5427aa0c84c", func := "sprocket/sprocketlaw12.CtrlPuts", spec := "ctrlPuts", unfollowed := true, recurses := true, apart := false, narrowed := true }
def CtrlPutsUptoSaid : Prop := ctrlPutsUptoRow.holds Try.pinned (OpenSpec.upto ctrlPutsSpec)

/-- 'sprocketlaw12.CtrlKeeps', WHERE WHAT IT READS IS OF BULK AT MOST 1048576: true; the input reads as it did. -/
def ctrlKeepsUptoRow : OpenClaim := { program := "ytmdaekiogcecmaa", sum := "b226a89d008f4f33729f33274499d75067c019f1d45b90a61eb6e5427aa0c84c", func := "sprocket/sprocketlaw12.CtrlKeeps", spec := "ctrlKeeps", unfollowed := true, recurses := true, apart := false, narrowed := true }
def CtrlKeepsUptoSaid : Prop := ctrlKeepsUptoRow.holds Try.pinned (OpenSpec.upto ctrlKeepsSpec)

end Rows
end Go.Proofs.Ytmdaekiogcecmaa
