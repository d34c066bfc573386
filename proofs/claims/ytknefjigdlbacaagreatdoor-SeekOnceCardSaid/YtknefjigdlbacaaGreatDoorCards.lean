/-
  DERIVED. GIVEN WITH THE SEED: THE CARDS: each row of YtknefjigdlbacaaGreatDoorRows.lean that lists a variable, with what it lists TIED to the program's text (the seventh form; the later family's looks); each row that meets fmt, with fmt's text TOLD by the authors' own Lean function (tested against real Go, not proved from fmt's source: count such statements apart). THE CARD IS WHAT COUNTS. Prove the row's statement (the work); the ties are given (YtknefjigdlbacaaGreatDoorTie.lean); close each card by the builder's one call (the guide's Derived/Test/ToyasCard.lean, 'card_holds'). Laid BY PROGRAM, IN A SANDBOX (cutbox-door.mjs). By AI agents, Wed Nov 11 2026. No macro, syntax, notation, axiom, sorry.
-/
import Derived.Test.YtknefjigdlbacaaGreatDoorRows
import GoSem.ClaimSeven
namespace Go.Proofs.YtknefjigdlbacaaGreatDoor
namespace Rows

/-- THE TIED CARD OF 'sprocketlaw22.SeekActs'. -/
def seekActsCard : Claim7 := { stood := { row := seekActsRow, standIns := [], harness := (true, "6b35f8c1dfe4a4ae7096aa5de42a55558594a7b37b7cb253abc3b79c8fdc16e4"), looks := false }, kinds := [], alts := [], laidByText := true, laidKinds := [.data], laidTests := true, laidLooks := .later }
def SeekActsCardSaid : Prop := Claim7.holds Tryz.pinned (.plain (OpenSpec.ofChange seekActsSpec)) seekActsCard

/-- THE TIED CARD OF 'sprocketlaw22.SeekOnce'. -/
def seekOnceCard : Claim7 := { stood := { row := seekOnceRow, standIns := [], harness := (true, "6b35f8c1dfe4a4ae7096aa5de42a55558594a7b37b7cb253abc3b79c8fdc16e4"), looks := false }, kinds := [], alts := [], laidByText := true, laidKinds := [.data], laidTests := true, laidLooks := .later }
def SeekOnceCardSaid : Prop := Claim7.holds Tryz.pinned (.plain (OpenSpec.ofChange seekOnceSpec)) seekOnceCard

/-- THE TIED CARD OF 'sprocketlaw22.SeekFinds'. -/
def seekFindsCard : Claim7 := { stood := { row := seekFindsRow, standIns := [], harness := (true, "6b35f8c1dfe4a4ae7096aa5de42a55558594a7b37b7cb253abc3b79c8fdc16e4"), looks := false }, kinds := [], alts := [], laidByText := true, laidKinds := [.data], laidTests := true, laidLooks := .later }
def SeekFindsCardSaid : Prop := Claim7.holds Tryz.pinned (.plain (OpenSpec.ofChange seekFindsSpec)) seekFindsCard

/-- THE SECOND FORM's CARD OF 'sprocketlaw22.SeekActs'. -/
def seekActsUptoCard : Claim7 := { stood := { row := seekActsUptoRow, standIns := [], harness := (true, "6b35f8c1dfe4a4ae7096aa5de42a55558594a7b37b7cb253abc3b79c8fdc16e4"), looks := false }, kinds := [], alts := [], laidByText := true, laidKinds := [.data], laidTests := true, laidLooks := .later }
def SeekActsUptoCardSaid : Prop := Claim7.holds Tryz.pinned (.plain (OpenSpec.upto seekActsSpec)) seekActsUptoCard

/-- THE SECOND FORM's CARD OF 'sprocketlaw22.SeekOnce'. -/
def seekOnceUptoCard : Claim7 := { stood := { row := seekOnceUptoRow, standIns := [], harness := (true, "6b35f8c1dfe4a4ae7096aa5de42a55558594a7b37b7cb253abc3b79c8fdc16e4"), looks := false }, kinds := [], alts := [], laidByText := true, laidKinds := [.data], laidTests := true, laidLooks := .later }
def SeekOnceUptoCardSaid : Prop := Claim7.holds Tryz.pinned (.plain (OpenSpec.upto seekOnceSpec)) seekOnceUptoCard

/-- THE SECOND FORM's CARD OF 'sprocketlaw22.SeekFinds'. -/
def seekFindsUptoCard : Claim7 := { stood := { row := seekFindsUptoRow, standIns := [], harness := (true, "6b35f8c1dfe4a4ae7096aa5de42a55558594a7b37b7cb253abc3b79c8fdc16e4"), looks := false }, kinds := [], alts := [], laidByText := true, laidKinds := [.data], laidTests := true, laidLooks := .later }
def SeekFindsUptoCardSaid : Prop := Claim7.holds Tryz.pinned (.plain (OpenSpec.upto seekFindsSpec)) seekFindsUptoCard
end Rows
end Go.Proofs.YtknefjigdlbacaaGreatDoor
