/-
  DERIVED. GIVEN WITH THE SEED: THE CARDS: each row of YtkbcbikilgcckaaGreatDoorRows.lean that lists a variable, with what it lists TIED to the program's text (the seventh form; the later family's looks); each row that meets fmt, with fmt's text TOLD by the authors' own Lean function (tested against real Go, not proved from fmt's source: count such statements apart). THE CARD IS WHAT COUNTS. Prove the row's statement (the work); the ties are given (YtkbcbikilgcckaaGreatDoorTie.lean); close each card by the builder's one call (the guide's Derived/Test/ToyasCard.lean, 'card_holds'). Laid BY PROGRAM, IN A SANDBOX (cutbox-door.mjs). By AI agents, Wed Nov 11 2026. No macro, syntax, notation, axiom, sorry.
-/
import Derived.Test.YtkbcbikilgcckaaGreatDoorRows
import GoSem.ClaimSeven
namespace Go.Proofs.YtkbcbikilgcckaaGreatDoor
namespace Rows

/-- THE TIED CARD OF 'hustingslaw12.RedactStrips'. -/
def redactStripsCard : Claim7 := { stood := { row := redactStripsRow, standIns := [], harness := (true, "76916f2ebd95a72971e01abdd4c0930f663871ffcb2a9adab6da3fee2006b202"), looks := true }, kinds := [], alts := [], laidByText := true, laidKinds := [.data, .data, .data], laidTests := true, laidLooks := .later }
def RedactStripsCardSaid : Prop := Claim7.holds Tryz.pinned (.plain (OpenSpec.ofChange redactStripsSpec)) redactStripsCard

/-- THE TIED CARD OF 'hustingslaw12.RedactTwice'. -/
def redactTwiceCard : Claim7 := { stood := { row := redactTwiceRow, standIns := [], harness := (true, "76916f2ebd95a72971e01abdd4c0930f663871ffcb2a9adab6da3fee2006b202"), looks := true }, kinds := [], alts := [], laidByText := true, laidKinds := [.data, .data, .data], laidTests := true, laidLooks := .later }
def RedactTwiceCardSaid : Prop := Claim7.holds Tryz.pinned (.plain (OpenSpec.ofChange redactTwiceSpec)) redactTwiceCard

/-- THE SECOND FORM's CARD OF 'hustingslaw12.RedactStrips'. -/
def redactStripsUptoCard : Claim7 := { stood := { row := redactStripsUptoRow, standIns := [], harness := (true, "76916f2ebd95a72971e01abdd4c0930f663871ffcb2a9adab6da3fee2006b202"), looks := true }, kinds := [], alts := [], laidByText := true, laidKinds := [.data, .data, .data], laidTests := true, laidLooks := .later }
def RedactStripsUptoCardSaid : Prop := Claim7.holds Tryz.pinned (.plain (OpenSpec.upto redactStripsSpec)) redactStripsUptoCard

/-- THE SECOND FORM's CARD OF 'hustingslaw12.RedactTwice'. -/
def redactTwiceUptoCard : Claim7 := { stood := { row := redactTwiceUptoRow, standIns := [], harness := (true, "76916f2ebd95a72971e01abdd4c0930f663871ffcb2a9adab6da3fee2006b202"), looks := true }, kinds := [], alts := [], laidByText := true, laidKinds := [.data, .data, .data], laidTests := true, laidLooks := .later }
def RedactTwiceUptoCardSaid : Prop := Claim7.holds Tryz.pinned (.plain (OpenSpec.upto redactTwiceSpec)) redactTwiceUptoCard
end Rows
end Go.Proofs.YtkbcbikilgcckaaGreatDoor
