/-
  No cell of these rows narrows 'for every input' (looked for: loops, veiled, ifaces, maps, wideKeys, modest, calm, conditions, laid).
  DERIVED. THE GIVEN ROWS OF THIS SEAT. 6 by the template 'for every input the law returns true; each argument reads behind the call as it read before'; 0 by the template 'total and deterministic' (their statements: YtkehjhglknalfaaTotals.lean).
  GIVEN WITH THE SEED: the statements are not yours to turn. If you find one false, say at which input.
  Laid BY PROGRAM, IN A SANDBOX (cutbox-rows.mjs): the forced cells as the released guide's own fill.sh prints them over the translation 8d1c048a11608152… (all of the seat's roots in one cut). By AI agents, Wed Nov 11 2026. No macro, syntax, notation, axiom, sorry.
-/
import Derived.Test.YtkehjhglknalfaaChecked
import GoSem.Claim
import GoSem.ClaimJoined
import GoSem.ClaimMapViews
import Derived.JoinedTies
import Derived.KernelRfl
namespace Go.Proofs.Ytkehjhglknalfaa
/- THE CELL 'sum', in the pinned program and in every row, IS THE sha256 OF THE DUMP (.gsa) THAT YtkehjhglknalfaaProg.lean LOADS. Nothing in Lean hashes anything: it is a label: what it is worth is what the hold of that sum in a sandbox is worth. -/
noncomputable def Try.pinned : Pinned := { name := "ytkehjhglknalfaa", sum := "8d1c048a116081522cc3c8ab52aeb8bdffa888700ff23f5715eeb38986ad68cb", checked := Try.checked }
namespace Rows
def none {H : Type} : Left H := { results := [], args := [] }

/-- 'hustingslaw01.LettersWrites': WHATEVER THE INPUT: true; the input reads as it did. -/
def lettersWritesSpec : ChangeSpec := { name := "lettersWrites", fn := fun _ => fun
  | [d] => { results := [.lit (.bool true)], args := [d] }
  | _ => none }
def lettersWritesRow : OpenClaim := { program := "ytkehjhglknalfaa", sum := "8d1c048a116081522cc3c8ab52aeb8bdffa888700ff23f5715eeb38986ad68cb", func := "hustings/hustingslaw01.LettersWrites", spec := "lettersWrites", apart := false }
def LettersWritesSaid : Prop := lettersWritesRow.holds Try.pinned (OpenSpec.ofChange lettersWritesSpec)

/-- ITS FALSE NEIGHBOUR: 'it returns false'. Refute it at one input. -/
def lettersWritesWrong : ChangeSpec := { name := "lettersWrites", fn := fun _ => fun
  | [d] => { results := [.lit (.bool false)], args := [d] }
  | _ => none }
def LettersWritesWrongFalsely : Prop := lettersWritesRow.holds Try.pinned (OpenSpec.ofChange lettersWritesWrong)

/-- 'hustingslaw01.LettersReads': WHATEVER THE INPUT: true; the input reads as it did. -/
def lettersReadsSpec : ChangeSpec := { name := "lettersReads", fn := fun _ => fun
  | [d1, d2] => { results := [.lit (.bool true)], args := [d1, d2] }
  | _ => none }
def lettersReadsRow : OpenClaim := { program := "ytkehjhglknalfaa", sum := "8d1c048a116081522cc3c8ab52aeb8bdffa888700ff23f5715eeb38986ad68cb", func := "hustings/hustingslaw01.LettersReads", spec := "lettersReads", apart := false }
def LettersReadsSaid : Prop := lettersReadsRow.holds Try.pinned (OpenSpec.ofChange lettersReadsSpec)

/-- ITS FALSE NEIGHBOUR: 'it returns false'. Refute it at one input. -/
def lettersReadsWrong : ChangeSpec := { name := "lettersReads", fn := fun _ => fun
  | [d1, d2] => { results := [.lit (.bool false)], args := [d1, d2] }
  | _ => none }
def LettersReadsWrongFalsely : Prop := lettersReadsRow.holds Try.pinned (OpenSpec.ofChange lettersReadsWrong)

/-- 'hustingslaw01.LettersBack': WHATEVER THE INPUT: true; the input reads as it did. -/
def lettersBackSpec : ChangeSpec := { name := "lettersBack", fn := fun _ => fun
  | [d1, d2, d3] => { results := [.lit (.bool true)], args := [d1, d2, d3] }
  | _ => none }
def lettersBackRow : OpenClaim := { program := "ytkehjhglknalfaa", sum := "8d1c048a116081522cc3c8ab52aeb8bdffa888700ff23f5715eeb38986ad68cb", func := "hustings/hustingslaw01.LettersBack", spec := "lettersBack", apart := false }
def LettersBackSaid : Prop := lettersBackRow.holds Try.pinned (OpenSpec.ofChange lettersBackSpec)

/-- ITS FALSE NEIGHBOUR: 'it returns false'. Refute it at one input. -/
def lettersBackWrong : ChangeSpec := { name := "lettersBack", fn := fun _ => fun
  | [d1, d2, d3] => { results := [.lit (.bool false)], args := [d1, d2, d3] }
  | _ => none }
def LettersBackWrongFalsely : Prop := lettersBackRow.holds Try.pinned (OpenSpec.ofChange lettersBackWrong)

/-- 'hustingslaw01.LettersCounts': WHATEVER THE INPUT: true; the input reads as it did. -/
def lettersCountsSpec : ChangeSpec := { name := "lettersCounts", fn := fun _ => fun
  | [d1, d2] => { results := [.lit (.bool true)], args := [d1, d2] }
  | _ => none }
def lettersCountsRow : OpenClaim := { program := "ytkehjhglknalfaa", sum := "8d1c048a116081522cc3c8ab52aeb8bdffa888700ff23f5715eeb38986ad68cb", func := "hustings/hustingslaw01.LettersCounts", spec := "lettersCounts", apart := false }
def LettersCountsSaid : Prop := lettersCountsRow.holds Try.pinned (OpenSpec.ofChange lettersCountsSpec)

/-- ITS FALSE NEIGHBOUR: 'it returns false'. Refute it at one input. -/
def lettersCountsWrong : ChangeSpec := { name := "lettersCounts", fn := fun _ => fun
  | [d1, d2] => { results := [.lit (.bool false)], args := [d1, d2] }
  | _ => none }
def LettersCountsWrongFalsely : Prop := lettersCountsRow.holds Try.pinned (OpenSpec.ofChange lettersCountsWrong)

/-- 'hustingslaw01.LettersParts': WHATEVER THE INPUT: true; the input reads as it did. -/
def lettersPartsSpec : ChangeSpec := { name := "lettersParts", fn := fun _ => fun
  | [d1, d2, d3] => { results := [.lit (.bool true)], args := [d1, d2, d3] }
  | _ => none }
def lettersPartsRow : OpenClaim := { program := "ytkehjhglknalfaa", sum := "8d1c048a116081522cc3c8ab52aeb8bdffa888700ff23f5715eeb38986ad68cb", func := "hustings/hustingslaw01.LettersParts", spec := "lettersParts", apart := false }
def LettersPartsSaid : Prop := lettersPartsRow.holds Try.pinned (OpenSpec.ofChange lettersPartsSpec)

/-- ITS FALSE NEIGHBOUR: 'it returns false'. Refute it at one input. -/
def lettersPartsWrong : ChangeSpec := { name := "lettersParts", fn := fun _ => fun
  | [d1, d2, d3] => { results := [.lit (.bool false)], args := [d1, d2, d3] }
  | _ => none }
def LettersPartsWrongFalsely : Prop := lettersPartsRow.holds Try.pinned (OpenSpec.ofChange lettersPartsWrong)

/-- 'hustingslaw01.LettersKeeps': WHATEVER THE INPUT: true; the input reads as it did. -/
def lettersKeepsSpec : ChangeSpec := { name := "lettersKeeps", fn := fun _ => fun
  | [d1, d2] => { results := [.lit (.bool true)], args := [d1, d2] }
  | _ => none }
def lettersKeepsRow : OpenClaim := { program := "ytkehjhglknalfaa", sum := "8d1c048a116081522cc3c8ab52aeb8bdffa888700ff23f5715eeb38986ad68cb", func := "hustings/hustingslaw01.LettersKeeps", spec := "lettersKeeps", apart := false }
def LettersKeepsSaid : Prop := lettersKeepsRow.holds Try.pinned (OpenSpec.ofChange lettersKeepsSpec)

/-- ITS FALSE NEIGHBOUR: 'it returns false'. Refute it at one input. -/
def lettersKeepsWrong : ChangeSpec := { name := "lettersKeeps", fn := fun _ => fun
  | [d1, d2] => { results := [.lit (.bool false)], args := [d1, d2] }
  | _ => none }
def LettersKeepsWrongFalsely : Prop := lettersKeepsRow.holds Try.pinned (OpenSpec.ofChange lettersKeepsWrong)

/- THE SECOND FORM. 'bulk': how many values and letters a reading holds, each counted each time it is reached (what is shared counts as often as it is met; a slice's spare places count too). A statement '..UptoSaid' is the law's where the arguments, and the package variables that the reading takes, are together of bulk at most 1048576: NARROWER than '..Said'. Prove '..Said' where nothing that the law and all that it calls make is longer than what came in: it says more and counts as full. Else prove '..UptoSaid'. A law counts once. -/
mutual
def uptoBulk {H : Type} : DataW H → Nat
  | .lit (.string bytes) => bytes.length + 1
  | .lit _ => 1
  | .nil => 1
  | .ptr d => uptoBulk d + 1
  | .slice elems spare => uptoBulkAll elems + uptoBulkAll spare + 1
  | .agg parts => uptoBulkAll parts + 1
  | .iface _ d => uptoBulk d + 1
  | .map entries => uptoBulkEntries entries + 1
  | .held _ => 1
def uptoBulkAll {H : Type} : List (DataW H) → Nat
  | [] => 0
  | d :: r => uptoBulk d + uptoBulkAll r
def uptoBulkEntries {H : Type} : List (Lit × DataW H) → Nat
  | [] => 0
  | x :: r => uptoBulkEntry x + uptoBulkEntries r
def uptoBulkEntry {H : Type} : Lit × DataW H → Nat
  | (.string bytes, d) => bytes.length + uptoBulk d + 1
  | (_, d) => uptoBulk d + 1
 end
def uptoSmall : (H : Type) → List (DataW H) → Bool := fun _ ds => decide (uptoBulkAll ds ≤ 1048576)
def OpenSpec.upto (s : _root_.Go.ChangeSpec) : _root_.Go.OpenSpec := { _root_.Go.OpenSpec.ofChange s with cond := some uptoSmall }

/-- 'hustingslaw01.LettersWrites', WHERE WHAT IT READS IS OF BULK AT MOST 1048576: true; the input reads as it did. -/
def lettersWritesUptoRow : OpenClaim := { program := "ytkehjhglknalfaa", sum := "8d1c048a116081522cc3c8ab52aeb8bdffa888700ff23f5715eeb38986ad68cb", func := "hustings/hustingslaw01.LettersWrites", spec := "lettersWrites", apart := false, narrowed := true }
def LettersWritesUptoSaid : Prop := lettersWritesUptoRow.holds Try.pinned (OpenSpec.upto lettersWritesSpec)

/-- 'hustingslaw01.LettersReads', WHERE WHAT IT READS IS OF BULK AT MOST 1048576: true; the input reads as it did. -/
def lettersReadsUptoRow : OpenClaim := { program := "ytkehjhglknalfaa", sum := "8d1c048a116081522cc3c8ab52aeb8bdffa888700ff23f5715eeb38986ad68cb", func := "hustings/hustingslaw01.LettersReads", spec := "lettersReads", apart := false, narrowed := true }
def LettersReadsUptoSaid : Prop := lettersReadsUptoRow.holds Try.pinned (OpenSpec.upto lettersReadsSpec)

/-- 'hustingslaw01.LettersBack', WHERE WHAT IT READS IS OF BULK AT MOST 1048576: true; the input reads as it did. -/
def lettersBackUptoRow : OpenClaim := { program := "ytkehjhglknalfaa", sum := "8d1c048a116081522cc3c8ab52aeb8bdffa888700ff23f5715eeb38986ad68cb", func := "hustings/hustingslaw01.LettersBack", spec := "lettersBack", apart := false, narrowed := true }
def LettersBackUptoSaid : Prop := lettersBackUptoRow.holds Try.pinned (OpenSpec.upto lettersBackSpec)

/-- 'hustingslaw01.LettersCounts', WHERE WHAT IT READS IS OF BULK AT MOST 1048576: true; the input reads as it did. -/
def lettersCountsUptoRow : OpenClaim := { program := "ytkehjhglknalfaa", sum := "8d1c048a116081522cc3c8ab52aeb8bdffa888700ff23f5715eeb38986ad68cb", func := "hustings/hustingslaw01.LettersCounts", spec := "lettersCounts", apart := false, narrowed := true }
def LettersCountsUptoSaid : Prop := lettersCountsUptoRow.holds Try.pinned (OpenSpec.upto lettersCountsSpec)

/-- 'hustingslaw01.LettersParts', WHERE WHAT IT READS IS OF BULK AT MOST 1048576: true; the input reads as it did. -/
def lettersPartsUptoRow : OpenClaim := { program := "ytkehjhglknalfaa", sum := "8d1c048a116081522cc3c8ab52aeb8bdffa888700ff23f5715eeb38986ad68cb", func := "hustings/hustingslaw01.LettersParts", spec := "lettersParts", apart := false, narrowed := true }
def LettersPartsUptoSaid : Prop := lettersPartsUptoRow.holds Try.pinned (OpenSpec.upto lettersPartsSpec)

/-- 'hustingslaw01.LettersKeeps', WHERE WHAT IT READS IS OF BULK AT MOST 1048576: true; the input reads as it did. -/
def lettersKeepsUptoRow : OpenClaim := { program := "ytkehjhglknalfaa", sum := "8d1c048a116081522cc3c8ab52aeb8bdffa888700ff23f5715eeb38986ad68cb", func := "hustings/hustingslaw01.LettersKeeps", spec := "lettersKeeps", apart := false, narrowed := true }
def LettersKeepsUptoSaid : Prop := lettersKeepsUptoRow.holds Try.pinned (OpenSpec.upto lettersKeepsSpec)

end Rows
end Go.Proofs.Ytkehjhglknalfaa
