/-
  DERIVED. GIVEN WITH THE SEED: THE CARDS: each row of YtfbhoakolcolbaaDoorRows.lean that lists a variable, with what it lists TIED to the program's text (the seventh form; the later family's looks); each row that meets fmt, with fmt's text TOLD by the authors' own Lean function (tested against real Go, not proved from fmt's source: count such statements apart). THE CARD IS WHAT COUNTS. Prove the row's statement (the work); the ties are given (YtfbhoakolcolbaaDoorTie.lean); close each card by the builder's one call (the guide's Derived/Test/ToyasCard.lean, 'card_holds'). Laid BY PROGRAM, IN A SANDBOX (cutbox-door.mjs). By AI agents, Wed Nov 11 2026. No macro, syntax, notation, axiom, sorry.
-/
import Derived.Test.YtfbhoakolcolbaaDoorRows
import GoSem.ClaimSeven
namespace Go.Proofs.YtfbhoakolcolbaaDoor
namespace Rows

/-- THE TIED CARD OF 'sprocketlaw01.DigitReads'. -/
def digitReadsCard : Claim7 := { stood := { row := digitReadsRow, standIns := [], harness := (true, "5034b1cecdf76bd98461c620ba93cf58394aaee23f32aa5288c1311f6d26f0e5"), looks := false }, kinds := [], alts := [], laidByText := true, laidKinds := [.data, .data, .data], laidTests := true, laidLooks := .later }
def DigitReadsCardSaid : Prop := Claim7.holds Tryd.pinned (.plain (OpenSpec.ofChange digitReadsSpec)) digitReadsCard

/-- THE TIED CARD OF 'sprocketlaw01.DigitWords'. -/
def digitWordsCard : Claim7 := { stood := { row := digitWordsRow, standIns := [], harness := (true, "5034b1cecdf76bd98461c620ba93cf58394aaee23f32aa5288c1311f6d26f0e5"), looks := false }, kinds := [], alts := [], laidByText := true, laidKinds := [.data, .data, .data], laidTests := true, laidLooks := .later }
def DigitWordsCardSaid : Prop := Claim7.holds Tryd.pinned (.plain (OpenSpec.ofChange digitWordsSpec)) digitWordsCard

/-- THE TIED CARD OF 'sprocketlaw01.DigitBack'. -/
def digitBackCard : Claim7 := { stood := { row := digitBackRow, standIns := [], harness := (true, "5034b1cecdf76bd98461c620ba93cf58394aaee23f32aa5288c1311f6d26f0e5"), looks := false }, kinds := [], alts := [], laidByText := true, laidKinds := [.data, .data, .data], laidTests := true, laidLooks := .later }
def DigitBackCardSaid : Prop := Claim7.holds Tryd.pinned (.plain (OpenSpec.ofChange digitBackSpec)) digitBackCard

/-- THE SECOND FORM's CARD OF 'sprocketlaw01.DigitReads'. -/
def digitReadsUptoCard : Claim7 := { stood := { row := digitReadsUptoRow, standIns := [], harness := (true, "5034b1cecdf76bd98461c620ba93cf58394aaee23f32aa5288c1311f6d26f0e5"), looks := false }, kinds := [], alts := [], laidByText := true, laidKinds := [.data, .data, .data], laidTests := true, laidLooks := .later }
def DigitReadsUptoCardSaid : Prop := Claim7.holds Tryd.pinned (.plain (OpenSpec.upto digitReadsSpec)) digitReadsUptoCard

/-- THE SECOND FORM's CARD OF 'sprocketlaw01.DigitWords'. -/
def digitWordsUptoCard : Claim7 := { stood := { row := digitWordsUptoRow, standIns := [], harness := (true, "5034b1cecdf76bd98461c620ba93cf58394aaee23f32aa5288c1311f6d26f0e5"), looks := false }, kinds := [], alts := [], laidByText := true, laidKinds := [.data, .data, .data], laidTests := true, laidLooks := .later }
def DigitWordsUptoCardSaid : Prop := Claim7.holds Tryd.pinned (.plain (OpenSpec.upto digitWordsSpec)) digitWordsUptoCard

/-- THE SECOND FORM's CARD OF 'sprocketlaw01.DigitBack'. -/
def digitBackUptoCard : Claim7 := { stood := { row := digitBackUptoRow, standIns := [], harness := (true, "5034b1cecdf76bd98461c620ba93cf58394aaee23f32aa5288c1311f6d26f0e5"), looks := false }, kinds := [], alts := [], laidByText := true, laidKinds := [.data, .data, .data], laidTests := true, laidLooks := .later }
def DigitBackUptoCardSaid : Prop := Claim7.holds Tryd.pinned (.plain (OpenSpec.upto digitBackSpec)) digitBackUptoCard
end Rows
end Go.Proofs.YtfbhoakolcolbaaDoor
