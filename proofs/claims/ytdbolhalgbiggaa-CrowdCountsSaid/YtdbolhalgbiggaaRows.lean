/-
  No cell of these rows narrows 'for every input' (looked for: loops, veiled, ifaces, maps, wideKeys, modest, calm, conditions, laid).
  DERIVED. THE GIVEN ROWS OF THIS SEAT. 2 by the template 'for every input the law returns true; each argument reads behind the call as it read before'; 0 by the template 'total and deterministic' (their statements: YtdbolhalgbiggaaTotals.lean).
  GIVEN WITH THE SEED: the statements are not yours to turn. If you find one false, say at which input.
  Laid BY PROGRAM, IN A SANDBOX (cutbox-rows.mjs): the forced cells as the released guide's own fill.sh prints them over the translation 9adc7447a8a6503d… (all of the seat's roots in one cut). By AI agents, Wed Nov 11 2026. No macro, syntax, notation, axiom, sorry.
-/
import Derived.Test.YtdbolhalgbiggaaChecked
import GoSem.Claim
import GoSem.ClaimJoined
import GoSem.ClaimMapViews
import Derived.JoinedTies
import Derived.KernelRfl
namespace Go.Proofs.Ytdbolhalgbiggaa
/- THE CELL 'sum', in the pinned program and in every row, IS THE sha256 OF THE DUMP (.gsa) THAT YtdbolhalgbiggaaProg.lean LOADS. Nothing in Lean hashes anything: it is a label: what it is worth is what the hold of that sum in a sandbox is worth. -/
noncomputable def Try.pinned : Pinned := { name := "ytdbolhalgbiggaa", sum := "9adc7447a8a6503d7755712dc2caf8f66300434b8cbaee02d089f55496024946", checked := Try.checked }
namespace Rows
def none {H : Type} : Left H := { results := [], args := [] }

/-- 'sprocketlaw21.CrowdActs': WHATEVER THE INPUT: true; the input reads as it did. -/
def crowdActsSpec : ChangeSpec := { name := "crowdActs", fn := fun _ => fun
  | [d1, d2, d3] => { results := [.lit (.bool true)], args := [d1, d2, d3] }
  | _ => none }
def crowdActsRow : OpenClaim := { program := "ytdbolhalgbiggaa", sum := "9adc7447a8a6503d7755712dc2caf8f66300434b8cbaee02d089f55496024946", func := "sprocket/sprocketlaw21.CrowdActs", spec := "crowdActs", apart := false }
def CrowdActsSaid : Prop := crowdActsRow.holds Try.pinned (OpenSpec.ofChange crowdActsSpec)

/-- ITS FALSE NEIGHBOUR: 'it returns false'. Refute it at one input. -/
def crowdActsWrong : ChangeSpec := { name := "crowdActs", fn := fun _ => fun
  | [d1, d2, d3] => { results := [.lit (.bool false)], args := [d1, d2, d3] }
  | _ => none }
def CrowdActsWrongFalsely : Prop := crowdActsRow.holds Try.pinned (OpenSpec.ofChange crowdActsWrong)

/-- 'sprocketlaw21.CrowdCounts': WHATEVER THE INPUT: true; the input reads as it did. -/
def crowdCountsSpec : ChangeSpec := { name := "crowdCounts", fn := fun _ => fun
  | [d1, d2] => { results := [.lit (.bool true)], args := [d1, d2] }
  | _ => none }
def crowdCountsRow : OpenClaim := { program := "ytdbolhalgbiggaa", sum := "9adc7447a8a6503d7755712dc2caf8f66300434b8cbaee02d089f55496024946", func := "sprocket/sprocketlaw21.CrowdCounts", spec := "crowdCounts", unfollowed := true, recurses := true, apart := false }
def CrowdCountsSaid : Prop := crowdCountsRow.holds Try.pinned (OpenSpec.ofChange crowdCountsSpec)

/-- ITS FALSE NEIGHBOUR: 'it returns false'. Refute it at one input. -/
def crowdCountsWrong : ChangeSpec := { name := "crowdCounts", fn := fun _ => fun
  | [d1, d2] => { results := [.lit (.bool false)], args := [d1, d2] }
  | _ => none }
def CrowdCountsWrongFalsely : Prop := crowdCountsRow.holds Try.pinned (OpenSpec.ofChange crowdCountsWrong)

/- THE SECOND FORM. 'bulk': how many values and letters a reading holds, each counted each time it is reached (what is shared counts as often as it is met; a slice's spare places count too). A statement '..UptoSaid' is the law's where the arguments, and the package variables that the reading takes, are together of bulk at most 1048576: NARROWER than '..Said'. Prove '..Said' where nothing that the law and all that it calls make is longer than what came in: it says more and counts as full. Else prove '..UptoSaid'. A law counts once. -/
mutual
def uptoBulk {H : Type} : DataW H → Nat
  | .lit (.string bytes) => bytes.length + 1
  | .lit _ => 1
  | .nil => 1
  | .ptr d => uptoBulk d + 1
  | .slice elems spare => uptoBulkAll elems + uptoBulkAll spare + 1
  | .agg parts => uptoBulkAll parts + 1
  | .iface _ d => uptoBulk d + 1
  | .map entries => uptoBulkEntries entries + 1
  | .held _ => 1
def uptoBulkAll {H : Type} : List (DataW H) → Nat
  | [] => 0
  | d :: r => uptoBulk d + uptoBulkAll r
def uptoBulkEntries {H : Type} : List (Lit × DataW H) → Nat
  | [] => 0
  | x :: r => uptoBulkEntry x + uptoBulkEntries r
def uptoBulkEntry {H : Type} : Lit × DataW H → Nat
  | (.string bytes, d) => bytes.length + uptoBulk d + 1
  | (_, d) => uptoBulk d + 1
 end
def uptoSmall : (H : Type) → List (DataW H) → Bool := fun _ ds => decide (uptoBulkAll ds ≤ 1048576)
def OpenSpec.upto (s : _root_.Go.ChangeSpec) : _root_.Go.OpenSpec := { _root_.Go.OpenSpec.ofChange s with cond := some uptoSmall }

/-- 'sprocketlaw21.CrowdActs', WHERE WHAT IT READS IS OF BULK AT MOST 1048576: true; the input reads as it did. -/
def crowdActsUptoRow : OpenClaim := { program := "ytdbolhalgbiggaa", sum := "9adc7447a8a6503d7755712dc2caf8f66300434b8cbaee02d089f55496024946", func := "sprocket/sprocketlaw21.CrowdActs", spec := "crowdActs", apart := false, narrowed := true }
def CrowdActsUptoSaid : Prop := crowdActsUptoRow.holds Try.pinned (OpenSpec.upto crowdActsSpec)

/-- 'sprocketlaw21.CrowdCounts', WHERE WHAT IT READS IS OF BULK AT MOST 1048576: true; the input reads as it did. -/
def crowdCountsUptoRow : OpenClaim := { program := "ytdbolhalgbiggaa", sum := "9adc7447a8a6503d7755712dc2caf8f66300434b8cbaee02d089f55496024946", func := "sprocket/sprocketlaw21.CrowdCounts", spec := "crowdCounts", unfollowed := true, recurses := true, apart := false, narrowed := true }
def CrowdCountsUptoSaid : Prop := crowdCountsUptoRow.holds Try.pinned (OpenSpec.upto crowdCountsSpec)

end Rows
end Go.Proofs.Ytdbolhalgbiggaa
