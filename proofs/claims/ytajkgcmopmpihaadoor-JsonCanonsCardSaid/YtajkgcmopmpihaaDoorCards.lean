/-
  DERIVED. GIVEN WITH THE SEED: THE CARDS: each row of YtajkgcmopmpihaaDoorRows.lean that lists a variable, with what it lists TIED to the program's text (the seventh form; the later family's looks); each row that meets fmt, with fmt's text TOLD by the authors' own Lean function (tested against real Go, not proved from fmt's source: count such statements apart). THE CARD IS WHAT COUNTS. Prove the row's statement (the work); the ties are given (YtajkgcmopmpihaaDoorTie.lean); close each card by the builder's one call (the guide's Derived/Test/ToyasCard.lean, 'card_holds'). Laid BY PROGRAM, IN A SANDBOX (cutbox-door.mjs). By AI agents, Wed Nov 11 2026. No macro, syntax, notation, axiom, sorry.
-/
import Derived.Test.YtajkgcmopmpihaaDoorRows
import GoSem.ClaimSeven
namespace Go.Proofs.YtajkgcmopmpihaaDoor
namespace Rows

/-- THE TIED CARD OF 'hustingslaw09.JsonCanons'. -/
def jsonCanonsCard : Claim7 := { stood := { row := jsonCanonsRow, standIns := [], harness := (true, "1330cd8b065e4b598180211eb2af2f720c00be4054b4b46ba913a27d412d0411"), looks := true }, kinds := [], alts := [], laidByText := true, laidKinds := [.data, .data, .data], laidTests := true, laidLooks := .later }
def JsonCanonsCardSaid : Prop := Claim7.holds Tryd.pinned (.plain (OpenSpec.ofChange jsonCanonsSpec)) jsonCanonsCard

/-- THE SECOND FORM's CARD OF 'hustingslaw09.JsonCanons'. -/
def jsonCanonsUptoCard : Claim7 := { stood := { row := jsonCanonsUptoRow, standIns := [], harness := (true, "1330cd8b065e4b598180211eb2af2f720c00be4054b4b46ba913a27d412d0411"), looks := true }, kinds := [], alts := [], laidByText := true, laidKinds := [.data, .data, .data], laidTests := true, laidLooks := .later }
def JsonCanonsUptoCardSaid : Prop := Claim7.holds Tryd.pinned (.plain (OpenSpec.upto jsonCanonsSpec)) jsonCanonsUptoCard
end Rows
end Go.Proofs.YtajkgcmopmpihaaDoor
