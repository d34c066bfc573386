/-
  NARROWER THAN 'FOR EVERY INPUT', by the rows' own cells (each row's printed sentence says how): SeekActs: laid · SeekOnce: laid · SeekFinds: laid.
  DERIVED. THE GIVEN ROWS OF THIS SEAT. 3 by the template 'for every input the law returns true; each argument reads behind the call as it read before'; 0 by the template 'total and deterministic' (their statements: YtknefjigdlbacaaGreatDoorTotals.lean).
  GIVEN WITH THE SEED: the statements are not yours to turn. If you find one false, say at which input.
  Laid BY PROGRAM, IN A SANDBOX (cutbox-rows.mjs): the forced cells as the released guide's own fill.sh prints them over the translation c4647f5f44b06236… (all of the seat's roots in one cut). By AI agents, Wed Nov 11 2026. No macro, syntax, notation, axiom, sorry.
-/
import Derived.Test.YtknefjigdlbacaaGreatDoorChecked
import GoSem.Claim
import GoSem.ClaimJoined
import GoSem.ClaimMapViews
import Derived.JoinedTies
import Derived.KernelRfl
namespace Go.Proofs.YtknefjigdlbacaaGreatDoor
/- THE CELL 'sum', in the pinned program and in every row, IS THE sha256 OF THE DUMP (.gsa) THAT YtknefjigdlbacaaGreatDoorProg.lean LOADS. Nothing in Lean hashes anything: it is a label: what it is worth is what the hold of that sum in a sandbox is worth. -/
noncomputable def Tryz.pinned : Pinned := { name := "ytknefjigdlbacaagreatdoor", sum := "c4647f5f44b06236a57bfa69c0476b4f01c2620bd4e1ee5a40a6c76f3e7344e2", checked := Tryz.checked }
namespace Rows
def none {H : Type} : Left H := { results := [], args := [] }

/- WHAT THE LISTED PACKAGE-LEVEL VARIABLES READ AS WHEN THE CALL BEGINS. Each datum BY PROGRAM (the guide's laid-datum.mjs) off the statement by which the dump's own 'gosem.cut.vars' lays the variable. In a bare row this is a premise. The card (YtknefjigdlbacaaGreatDoorCards.lean) ties it to the program's text. -/
def laid_sprocket_desk_bounds {H : Type} : DataW H := .agg [.agg [.lit (.int .i64 1), .lit (.int .i64 64)], .agg [.lit (.int .i64 0), .lit (.int .i64 63)], .agg [.lit (.int .i64 1), .lit (.int .i64 64)]]

/-- 'sprocketlaw22.SeekActs': WHATEVER THE INPUT: true; the input reads as it did. -/
def seekActsSpec : ChangeSpec := { name := "seekActs", fn := fun _ => fun
  | [d1, d2, d3] => { results := [.lit (.bool true)], args := [d1, d2, d3] }
  | _ => none }
def seekActsRow : OpenClaim := { program := "ytknefjigdlbacaagreatdoor", sum := "c4647f5f44b06236a57bfa69c0476b4f01c2620bd4e1ee5a40a6c76f3e7344e2", func := "sprocket/sprocketlaw22.SeekActs", spec := "seekActs", unfollowed := true, recurses := true, named := ["sprocket/desk.bounds"], apart := false, laid := [("sprocket/desk.bounds", laid_sprocket_desk_bounds)] }
def SeekActsSaid : Prop := seekActsRow.holds Tryz.pinned (OpenSpec.ofChange seekActsSpec)

/-- ITS FALSE NEIGHBOUR: 'it returns false'. Refute it at one input. -/
def seekActsWrong : ChangeSpec := { name := "seekActs", fn := fun _ => fun
  | [d1, d2, d3] => { results := [.lit (.bool false)], args := [d1, d2, d3] }
  | _ => none }
def SeekActsWrongFalsely : Prop := seekActsRow.holds Tryz.pinned (OpenSpec.ofChange seekActsWrong)

/-- 'sprocketlaw22.SeekOnce': WHATEVER THE INPUT: true; the input reads as it did. -/
def seekOnceSpec : ChangeSpec := { name := "seekOnce", fn := fun _ => fun
  | [d1, d2, d3] => { results := [.lit (.bool true)], args := [d1, d2, d3] }
  | _ => none }
def seekOnceRow : OpenClaim := { program := "ytknefjigdlbacaagreatdoor", sum := "c4647f5f44b06236a57bfa69c0476b4f01c2620bd4e1ee5a40a6c76f3e7344e2", func := "sprocket/sprocketlaw22.SeekOnce", spec := "seekOnce", unfollowed := true, recurses := true, named := ["sprocket/desk.bounds"], apart := false, laid := [("sprocket/desk.bounds", laid_sprocket_desk_bounds)] }
def SeekOnceSaid : Prop := seekOnceRow.holds Tryz.pinned (OpenSpec.ofChange seekOnceSpec)

/-- ITS FALSE NEIGHBOUR: 'it returns false'. Refute it at one input. -/
def seekOnceWrong : ChangeSpec := { name := "seekOnce", fn := fun _ => fun
  | [d1, d2, d3] => { results := [.lit (.bool false)], args := [d1, d2, d3] }
  | _ => none }
def SeekOnceWrongFalsely : Prop := seekOnceRow.holds Tryz.pinned (OpenSpec.ofChange seekOnceWrong)

/-- 'sprocketlaw22.SeekFinds': WHATEVER THE INPUT: true; the input reads as it did. -/
def seekFindsSpec : ChangeSpec := { name := "seekFinds", fn := fun _ => fun
  | [d1, d2, d3] => { results := [.lit (.bool true)], args := [d1, d2, d3] }
  | _ => none }
def seekFindsRow : OpenClaim := { program := "ytknefjigdlbacaagreatdoor", sum := "c4647f5f44b06236a57bfa69c0476b4f01c2620bd4e1ee5a40a6c76f3e7344e2", func := "sprocket/sprocketlaw22.SeekFinds", spec := "seekFinds", unfollowed := true, recurses := true, named := ["sprocket/desk.bounds"], apart := false, laid := [("sprocket/desk.bounds", laid_sprocket_desk_bounds)] }
def SeekFindsSaid : Prop := seekFindsRow.holds Tryz.pinned (OpenSpec.ofChange seekFindsSpec)

/-- ITS FALSE NEIGHBOUR: 'it returns false'. Refute it at one input. -/
def seekFindsWrong : ChangeSpec := { name := "seekFinds", fn := fun _ => fun
  | [d1, d2, d3] => { results := [.lit (.bool false)], args := [d1, d2, d3] }
  | _ => none }
def SeekFindsWrongFalsely : Prop := seekFindsRow.holds Tryz.pinned (OpenSpec.ofChange seekFindsWrong)

/- THE SECOND FORM. 'bulk': how many values and letters a reading holds, each counted each time it is reached (what is shared counts as often as it is met; a slice's spare places count too). A statement '..UptoSaid' is the law's where the arguments, and the package variables that the reading takes, are together of bulk at most 1048576: NARROWER than '..Said'. Prove '..Said' where nothing that the law and all that it calls make is longer than what came in: it says more and counts as full. Else prove '..UptoSaid'. A law counts once. -/
mutual
def uptoBulk {H : Type} : DataW H → Nat
  | .lit (.string bytes) => bytes.length + 1
  | .lit _ => 1
  | .nil => 1
  | .ptr d => uptoBulk d + 1
  | .slice elems spare => uptoBulkAll elems + uptoBulkAll spare + 1
  | .agg parts => uptoBulkAll parts + 1
  | .iface _ d => uptoBulk d + 1
  | .map entries => uptoBulkEntries entries + 1
  | .held _ => 1
def uptoBulkAll {H : Type} : List (DataW H) → Nat
  | [] => 0
  | d :: r => uptoBulk d + uptoBulkAll r
def uptoBulkEntries {H : Type} : List (Lit × DataW H) → Nat
  | [] => 0
  | x :: r => uptoBulkEntry x + uptoBulkEntries r
def uptoBulkEntry {H : Type} : Lit × DataW H → Nat
  | (.string bytes, d) => bytes.length + uptoBulk d + 1
  | (_, d) => uptoBulk d + 1
 end
def uptoSmall : (H : Type) → List (DataW H) → Bool := fun _ ds => decide (uptoBulkAll ds ≤ 1048576)
def OpenSpec.upto (s : _root_.Go.ChangeSpec) : _root_.Go.OpenSpec := { _root_.Go.OpenSpec.ofChange s with cond := some uptoSmall }

/-- 'sprocketlaw22.SeekActs', WHERE WHAT IT READS IS OF BULK AT MOST 1048576: true; the input reads as it did. -/
def seekActsUptoRow : OpenClaim := { program := "ytknefjigdlbacaagreatdoor", sum := "c4647f5f44b06236a57bfa69c0476b4f01c2620bd4e1ee5a40a6c76f3e7344e2", func := "sprocket/sprocketlaw22.SeekActs", spec := "seekActs", unfollowed := true, recurses := true, named := ["sprocket/desk.bounds"], apart := false, laid := [("sprocket/desk.bounds", laid_sprocket_desk_bounds)], narrowed := true }
def SeekActsUptoSaid : Prop := seekActsUptoRow.holds Tryz.pinned (OpenSpec.upto seekActsSpec)

/-- 'sprocketlaw22.SeekOnce', WHERE WHAT IT READS IS OF BULK AT MOST 1048576: true; the input reads as it did. -/
def seekOnceUptoRow : OpenClaim := { program := "ytknefjigdlbacaagreatdoor", sum := "c4647f5f44b06236a57bfa69c0476b4f01c2620bd4e1ee5a40a6c76f3e7344e2", func := "sprocket/sprocketlaw22.SeekOnce", spec := "seekOnce", unfollowed := true, recurses := true, named := ["sprocket/desk.bounds"], apart := false, laid := [("sprocket/desk.bounds", laid_sprocket_desk_bounds)], narrowed := true }
def SeekOnceUptoSaid : Prop := seekOnceUptoRow.holds Tryz.pinned (OpenSpec.upto seekOnceSpec)

/-- 'sprocketlaw22.SeekFinds', WHERE WHAT IT READS IS OF BULK AT MOST 1048576: true; the input reads as it did. -/
def seekFindsUptoRow : OpenClaim := { program := "ytknefjigdlbacaagreatdoor", sum := "c4647f5f44b06236a57bfa69c0476b4f01c2620bd4e1ee5a40a6c76f3e7344e2", func := "sprocket/sprocketlaw22.SeekFinds", spec := "seekFinds", unfollowed := true, recurses := true, named := ["sprocket/desk.bounds"], apart := false, laid := [("sprocket/desk.bounds", laid_sprocket_desk_bounds)], narrowed := true }
def SeekFindsUptoSaid : Prop := seekFindsUptoRow.holds Tryz.pinned (OpenSpec.upto seekFindsSpec)

end Rows
end Go.Proofs.YtknefjigdlbacaaGreatDoor
