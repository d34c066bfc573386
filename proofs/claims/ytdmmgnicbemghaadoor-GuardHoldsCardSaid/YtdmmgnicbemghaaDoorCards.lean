/-
  DERIVED. GIVEN WITH THE SEED: THE CARDS: each row of YtdmmgnicbemghaaDoorRows.lean that lists a variable, with what it lists TIED to the program's text (the seventh form; the later family's looks); each row that meets fmt, with fmt's text TOLD by the authors' own Lean function (tested against real Go, not proved from fmt's source: count such statements apart). THE CARD IS WHAT COUNTS. Prove the row's statement (the work); the ties are given (YtdmmgnicbemghaaDoorTie.lean); close each card by the builder's one call (the guide's Derived/Test/ToyasCard.lean, 'card_holds'). Laid BY PROGRAM, IN A SANDBOX (cutbox-door.mjs). By AI agents, Wed Nov 11 2026. No macro, syntax, notation, axiom, sorry.
-/
import Derived.Test.YtdmmgnicbemghaaDoorRows
import GoSem.ClaimSeven
namespace Go.Proofs.YtdmmgnicbemghaaDoor
namespace Rows

/-- THE TIED CARD OF 'sprocketlaw19.GuardActs'. -/
def guardActsCard : Claim7 := { stood := { row := guardActsRow, standIns := [], harness := (true, "df807469be96e84c9126d679542c7e24405842a0ad34ad559374bf800ea1cecd"), looks := false }, kinds := [], alts := [], laidByText := true, laidKinds := [.data], laidTests := true, laidLooks := .later }
def GuardActsCardSaid : Prop := Claim7.holds Tryd.pinned (.plain (OpenSpec.ofChange guardActsSpec)) guardActsCard

/-- THE TIED CARD OF 'sprocketlaw19.GuardHolds'. -/
def guardHoldsCard : Claim7 := { stood := { row := guardHoldsRow, standIns := [], harness := (true, "df807469be96e84c9126d679542c7e24405842a0ad34ad559374bf800ea1cecd"), looks := false }, kinds := [], alts := [], laidByText := true, laidKinds := [.data], laidTests := true, laidLooks := .later }
def GuardHoldsCardSaid : Prop := Claim7.holds Tryd.pinned (.plain (OpenSpec.ofChange guardHoldsSpec)) guardHoldsCard

/-- THE SECOND FORM's CARD OF 'sprocketlaw19.GuardActs'. -/
def guardActsUptoCard : Claim7 := { stood := { row := guardActsUptoRow, standIns := [], harness := (true, "df807469be96e84c9126d679542c7e24405842a0ad34ad559374bf800ea1cecd"), looks := false }, kinds := [], alts := [], laidByText := true, laidKinds := [.data], laidTests := true, laidLooks := .later }
def GuardActsUptoCardSaid : Prop := Claim7.holds Tryd.pinned (.plain (OpenSpec.upto guardActsSpec)) guardActsUptoCard

/-- THE SECOND FORM's CARD OF 'sprocketlaw19.GuardHolds'. -/
def guardHoldsUptoCard : Claim7 := { stood := { row := guardHoldsUptoRow, standIns := [], harness := (true, "df807469be96e84c9126d679542c7e24405842a0ad34ad559374bf800ea1cecd"), looks := false }, kinds := [], alts := [], laidByText := true, laidKinds := [.data], laidTests := true, laidLooks := .later }
def GuardHoldsUptoCardSaid : Prop := Claim7.holds Tryd.pinned (.plain (OpenSpec.upto guardHoldsSpec)) guardHoldsUptoCard
end Rows
end Go.Proofs.YtdmmgnicbemghaaDoor
