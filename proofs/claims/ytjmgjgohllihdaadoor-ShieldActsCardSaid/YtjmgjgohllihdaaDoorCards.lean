/-
  DERIVED. GIVEN WITH THE SEED: THE CARDS: each row of YtjmgjgohllihdaaDoorRows.lean that lists a variable, with what it lists TIED to the program's text (the seventh form; the later family's looks); each row that meets fmt, with fmt's text TOLD by the authors' own Lean function (tested against real Go, not proved from fmt's source: count such statements apart). THE CARD IS WHAT COUNTS. Prove the row's statement (the work); the ties are given (YtjmgjgohllihdaaDoorTie.lean); close each card by the builder's one call (the guide's Derived/Test/ToyasCard.lean, 'card_holds'). Laid BY PROGRAM, IN A SANDBOX (cutbox-door.mjs). By AI agents, Wed Nov 11 2026. No macro, syntax, notation, axiom, sorry.
-/
import Derived.Test.YtjmgjgohllihdaaDoorRows
import GoSem.ClaimSeven
namespace Go.Proofs.YtjmgjgohllihdaaDoor
namespace Rows

/-- THE TIED CARD OF 'sprocketlaw20.ShieldActs'. -/
def shieldActsCard : Claim7 := { stood := { row := shieldActsRow, standIns := [], harness := (true, "ea0cea4d57a8d024fd1285ede39003898fe996ecea997e6151714cfaac2a66b3"), looks := false }, kinds := [], alts := [], laidByText := true, laidKinds := [.data], laidTests := true, laidLooks := .later }
def ShieldActsCardSaid : Prop := Claim7.holds Tryd.pinned (.plain (OpenSpec.ofChange shieldActsSpec)) shieldActsCard

/-- THE TIED CARD OF 'sprocketlaw20.ShieldHolds'. -/
def shieldHoldsCard : Claim7 := { stood := { row := shieldHoldsRow, standIns := [], harness := (true, "ea0cea4d57a8d024fd1285ede39003898fe996ecea997e6151714cfaac2a66b3"), looks := false }, kinds := [], alts := [], laidByText := true, laidKinds := [.data], laidTests := true, laidLooks := .later }
def ShieldHoldsCardSaid : Prop := Claim7.holds Tryd.pinned (.plain (OpenSpec.ofChange shieldHoldsSpec)) shieldHoldsCard

/-- THE SECOND FORM's CARD OF 'sprocketlaw20.ShieldActs'. -/
def shieldActsUptoCard : Claim7 := { stood := { row := shieldActsUptoRow, standIns := [], harness := (true, "ea0cea4d57a8d024fd1285ede39003898fe996ecea997e6151714cfaac2a66b3"), looks := false }, kinds := [], alts := [], laidByText := true, laidKinds := [.data], laidTests := true, laidLooks := .later }
def ShieldActsUptoCardSaid : Prop := Claim7.holds Tryd.pinned (.plain (OpenSpec.upto shieldActsSpec)) shieldActsUptoCard

/-- THE SECOND FORM's CARD OF 'sprocketlaw20.ShieldHolds'. -/
def shieldHoldsUptoCard : Claim7 := { stood := { row := shieldHoldsUptoRow, standIns := [], harness := (true, "ea0cea4d57a8d024fd1285ede39003898fe996ecea997e6151714cfaac2a66b3"), looks := false }, kinds := [], alts := [], laidByText := true, laidKinds := [.data], laidTests := true, laidLooks := .later }
def ShieldHoldsUptoCardSaid : Prop := Claim7.holds Tryd.pinned (.plain (OpenSpec.upto shieldHoldsSpec)) shieldHoldsUptoCard
end Rows
end Go.Proofs.YtjmgjgohllihdaaDoor
