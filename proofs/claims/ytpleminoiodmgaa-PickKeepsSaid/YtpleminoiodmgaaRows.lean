/-
  No cell of these rows narrows 'for every input' (looked for: loops, veiled, ifaces, maps, wideKeys, modest, calm, conditions, laid).
  DERIVED. THE GIVEN ROWS OF THIS SEAT. 3 by the template 'for every input the law returns true; each argument reads behind the call as it read before'; 0 by the template 'total and deterministic' (their statements: YtpleminoiodmgaaTotals.lean).
  GIVEN WITH THE SEED: the statements are not yours to turn. If you find one false, say at which input.
  Laid BY PROGRAM, IN A SANDBOX (cutbox-rows.mjs): the forced cells as the released guide's own fill.sh prints them over the translation 1d4cc4b6e0559fd7… (all of the seat's roots in one cut). By AI agents, Wed Nov 11 2026. No macro, syntax, notation, axiom, sorry.
-/
import Derived.Test.YtpleminoiodmgaaChecked
import GoSem.Claim
import GoSem.ClaimJoined
import GoSem.ClaimMapViews
import Derived.JoinedTies
import Derived.KernelRfl
namespace Go.Proofs.Ytpleminoiodmgaa
/- THE CELL 'sum', in the pinned program and in every row, IS THE sha256 OF THE DUMP (.gsa) THAT YtpleminoiodmgaaProg.lean LOADS. Nothing in Lean hashes anything: it is a label: what it is worth is what the hold of that sum in a sandbox is worth. -/
noncomputable def Try.pinned : Pinned := { name := "ytpleminoiodmgaa", sum := "1d4cc4b6e0559fd7d6c6152fcc44c7a07bb46b8b6f94b3a55cc9b7a507ff7bb1", checked := Try.checked }
namespace Rows
def none {H : Type} : Left H := { results := [], args := [] }

/-- 'hustingslaw16.PickStates': WHATEVER THE INPUT: true; the input reads as it did. -/
def pickStatesSpec : ChangeSpec := { name := "pickStates", fn := fun _ => fun
  | [d1, d2] => { results := [.lit (.bool true)], args := [d1, d2] }
  | _ => none }
def pickStatesRow : OpenClaim := { program := "ytpleminoiodmgaa", sum := "1d4cc4b6e0559fd7d6c6152fcc44c7a07bb46b8b6f94b3a55cc9b7a507ff7bb1", func := "hustings/hustingslaw16.PickStates", spec := "pickStates", inPlace := ["internal/bytealg.abigen_runtime_cmpstring", "slices.overlaps[hustings/api.Slot]"], unfollowed := true, recurses := true, apart := false }
def PickStatesSaid : Prop := pickStatesRow.holds Try.pinned (OpenSpec.ofChange pickStatesSpec)

/-- ITS FALSE NEIGHBOUR: 'it returns false'. Refute it at one input. -/
def pickStatesWrong : ChangeSpec := { name := "pickStates", fn := fun _ => fun
  | [d1, d2] => { results := [.lit (.bool false)], args := [d1, d2] }
  | _ => none }
def PickStatesWrongFalsely : Prop := pickStatesRow.holds Try.pinned (OpenSpec.ofChange pickStatesWrong)

/-- 'hustingslaw16.PickFills': WHATEVER THE INPUT: true; the input reads as it did. -/
def pickFillsSpec : ChangeSpec := { name := "pickFills", fn := fun _ => fun
  | [d1, d2] => { results := [.lit (.bool true)], args := [d1, d2] }
  | _ => none }
def pickFillsRow : OpenClaim := { program := "ytpleminoiodmgaa", sum := "1d4cc4b6e0559fd7d6c6152fcc44c7a07bb46b8b6f94b3a55cc9b7a507ff7bb1", func := "hustings/hustingslaw16.PickFills", spec := "pickFills", inPlace := ["internal/bytealg.abigen_runtime_cmpstring", "slices.overlaps[hustings/api.Slot]"], unfollowed := true, recurses := true, apart := false }
def PickFillsSaid : Prop := pickFillsRow.holds Try.pinned (OpenSpec.ofChange pickFillsSpec)

/-- ITS FALSE NEIGHBOUR: 'it returns false'. Refute it at one input. -/
def pickFillsWrong : ChangeSpec := { name := "pickFills", fn := fun _ => fun
  | [d1, d2] => { results := [.lit (.bool false)], args := [d1, d2] }
  | _ => none }
def PickFillsWrongFalsely : Prop := pickFillsRow.holds Try.pinned (OpenSpec.ofChange pickFillsWrong)

/-- 'hustingslaw16.PickKeeps': WHATEVER THE INPUT: true; the input reads as it did. -/
def pickKeepsSpec : ChangeSpec := { name := "pickKeeps", fn := fun _ => fun
  | [d1, d2] => { results := [.lit (.bool true)], args := [d1, d2] }
  | _ => none }
def pickKeepsRow : OpenClaim := { program := "ytpleminoiodmgaa", sum := "1d4cc4b6e0559fd7d6c6152fcc44c7a07bb46b8b6f94b3a55cc9b7a507ff7bb1", func := "hustings/hustingslaw16.PickKeeps", spec := "pickKeeps", inPlace := ["internal/bytealg.abigen_runtime_cmpstring", "slices.overlaps[hustings/api.Slot]"], unfollowed := true, recurses := true, apart := false }
def PickKeepsSaid : Prop := pickKeepsRow.holds Try.pinned (OpenSpec.ofChange pickKeepsSpec)

/-- ITS FALSE NEIGHBOUR: 'it returns false'. Refute it at one input. -/
def pickKeepsWrong : ChangeSpec := { name := "pickKeeps", fn := fun _ => fun
  | [d1, d2] => { results := [.lit (.bool false)], args := [d1, d2] }
  | _ => none }
def PickKeepsWrongFalsely : Prop := pickKeepsRow.holds Try.pinned (OpenSpec.ofChange pickKeepsWrong)

/- THE SECOND FORM. 'bulk': how many values and letters a reading holds, each counted each time it is reached (what is shared counts as often as it is met; a slice's spare places count too). A statement '..UptoSaid' is the law's where the arguments, and the package variables that the reading takes, are together of bulk at most 1048576: NARROWER than '..Said'. Prove '..Said' where nothing that the law and all that it calls make is longer than what came in: it says more and counts as full. Else prove '..UptoSaid'. A law counts once. -/
mutual
def uptoBulk {H : Type} : DataW H → Nat
  | .lit (.string bytes) => bytes.length + 1
  | .lit _ => 1
  | .nil => 1
  | .ptr d => uptoBulk d + 1
  | .slice elems spare => uptoBulkAll elems + uptoBulkAll spare + 1
  | .agg parts => uptoBulkAll parts + 1
  | .iface _ d => uptoBulk d + 1
  | .map entries => uptoBulkEntries entries + 1
  | .held _ => 1
def uptoBulkAll {H : Type} : List (DataW H) → Nat
  | [] => 0
  | d :: r => uptoBulk d + uptoBulkAll r
def uptoBulkEntries {H : Type} : List (Lit × DataW H) → Nat
  | [] => 0
  | x :: r => uptoBulkEntry x + uptoBulkEntries r
def uptoBulkEntry {H : Type} : Lit × DataW H → Nat
  | (.string bytes, d) => bytes.length + uptoBulk d + 1
  | (_, d) => uptoBulk d + 1
 end
def uptoSmall : (H : Type) → List (DataW H) → Bool := fun _ ds => decide (uptoBulkAll ds ≤ 1048576)
def OpenSpec.upto (s : _root_.Go.ChangeSpec) : _root_.Go.OpenSpec := { _root_.Go.OpenSpec.ofChange s with cond := some uptoSmall }

/-- 'hustingslaw16.PickStates', WHERE WHAT IT READS IS OF BULK AT MOST 1048576: true; the input reads as it did. -/
def pickStatesUptoRow : OpenClaim := { program := "ytpleminoiodmgaa", sum := "1d4cc4b6e0559fd7d6c6152fcc44c7a07bb46b8b6f94b3a55cc9b7a507ff7bb1", func := "hustings/hustingslaw16.PickStates", spec := "pickStates", inPlace := ["internal/bytealg.abigen_runtime_cmpstring", "slices.overlaps[hustings/api.Slot]"], unfollowed := true, recurses := true, apart := false, narrowed := true }
def PickStatesUptoSaid : Prop := pickStatesUptoRow.holds Try.pinned (OpenSpec.upto pickStatesSpec)

/-- 'hustingslaw16.PickFills', WHERE WHAT IT READS IS OF BULK AT MOST 1048576: true; the input reads as it did. -/
def pickFillsUptoRow : OpenClaim := { program := "ytpleminoiodmgaa", sum := "1d4cc4b6e0559fd7d6c6152fcc44c7a07bb46b8b6f94b3a55cc9b7a507ff7bb1", func := "hustings/hustingslaw16.PickFills", spec := "pickFills", inPlace := ["internal/bytealg.abigen_runtime_cmpstring", "slices.overlaps[hustings/api.Slot]"], unfollowed := true, recurses := true, apart := false, narrowed := true }
def PickFillsUptoSaid : Prop := pickFillsUptoRow.holds Try.pinned (OpenSpec.upto pickFillsSpec)

/-- 'hustingslaw16.PickKeeps', WHERE WHAT IT READS IS OF BULK AT MOST 1048576: true; the input reads as it did. -/
def pickKeepsUptoRow : OpenClaim := { program := "ytpleminoiodmgaa", sum := "1d4cc4b6e0559fd7d6c6152fcc44c7a07bb46b8b6f94b3a55cc9b7a507ff7bb1", func := "hustings/hustingslaw16.PickKeeps", spec := "pickKeeps", inPlace := ["internal/bytealg.abigen_runtime_cmpstring", "slices.overlaps[hustings/api.Slot]"], unfollowed := true, recurses := true, apart := false, narrowed := true }
def PickKeepsUptoSaid : Prop := pickKeepsUptoRow.holds Try.pinned (OpenSpec.upto pickKeepsSpec)

end Rows
end Go.Proofs.Ytpleminoiodmgaa
