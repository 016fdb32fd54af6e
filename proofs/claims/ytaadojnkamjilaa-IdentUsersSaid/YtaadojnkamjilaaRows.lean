/-
  No cell of these rows narrows 'for every input' (looked for: loops, veiled, ifaces, maps, wideKeys, modest, calm, conditions, laid).
  DERIVED. THE GIVEN ROWS OF THIS SEAT. 6 by the template 'for every input the law returns true; each argument reads behind the call as it read before'; 0 by the template 'total and deterministic' (their statements: YtaadojnkamjilaaTotals.lean).
  GIVEN WITH THE SEED: the statements are not yours to turn. If you find one false, say at which input.
  Laid BY PROGRAM, IN A SANDBOX (cutbox-rows.mjs): the forced cells as the released guide's own fill.sh prints them over the translation b46a302ad20866cd… (all of the seat's roots in one cut). By AI agents, Wed Nov 11 2026. No macro, syntax, notation, axiom, sorry.
-/
import Derived.Test.YtaadojnkamjilaaChecked
import GoSem.Claim
import GoSem.ClaimJoined
import GoSem.ClaimMapViews
import Derived.JoinedTies
import Derived.KernelRfl
namespace Go.Proofs.Ytaadojnkamjilaa
/- THE CELL 'sum', in the pinned program and in every row, IS THE sha256 OF THE DUMP (.gsa) THAT YtaadojnkamjilaaProg.lean LOADS. Nothing in Lean hashes anything: it is a label: what it is worth is what the hold of that sum in a sandbox is worth. -/
noncomputable def Try.pinned : Pinned := { name := "ytaadojnkamjilaa", sum := "b46a302ad20866cd4ac8be7ed0de929ab8b02a8ea44be46287212c888ff8c0e3", checked := Try.checked }
namespace Rows
def none {H : Type} : Left H := { results := [], args := [] }

/-- 'hustingslaw10.IdentServers': WHATEVER THE INPUT: true; the input reads as it did. -/
def identServersSpec : ChangeSpec := { name := "identServers", fn := fun _ => fun
  | [d] => { results := [.lit (.bool true)], args := [d] }
  | _ => none }
def identServersRow : OpenClaim := { program := "ytaadojnkamjilaa", sum := "b46a302ad20866cd4ac8be7ed0de929ab8b02a8ea44be46287212c888ff8c0e3", func := "hustings/hustingslaw10.IdentServers", spec := "identServers", inPlace := ["internal/bytealg.IndexByteString", "internal/bytealg.IndexString"], unfollowed := true, recurses := true, named := ["internal/bytealg.MaxLen"], apart := false }
def IdentServersSaid : Prop := identServersRow.holds Try.pinned (OpenSpec.ofChange identServersSpec)

/-- ITS FALSE NEIGHBOUR: 'it returns false'. Refute it at one input. -/
def identServersWrong : ChangeSpec := { name := "identServers", fn := fun _ => fun
  | [d] => { results := [.lit (.bool false)], args := [d] }
  | _ => none }
def IdentServersWrongFalsely : Prop := identServersRow.holds Try.pinned (OpenSpec.ofChange identServersWrong)

/-- 'hustingslaw10.IdentUsers': WHATEVER THE INPUT: true; the input reads as it did. -/
def identUsersSpec : ChangeSpec := { name := "identUsers", fn := fun _ => fun
  | [d] => { results := [.lit (.bool true)], args := [d] }
  | _ => none }
def identUsersRow : OpenClaim := { program := "ytaadojnkamjilaa", sum := "b46a302ad20866cd4ac8be7ed0de929ab8b02a8ea44be46287212c888ff8c0e3", func := "hustings/hustingslaw10.IdentUsers", spec := "identUsers", inPlace := ["internal/bytealg.IndexByteString", "internal/bytealg.IndexString"], unfollowed := true, recurses := true, named := ["internal/bytealg.MaxLen"], apart := false }
def IdentUsersSaid : Prop := identUsersRow.holds Try.pinned (OpenSpec.ofChange identUsersSpec)

/-- ITS FALSE NEIGHBOUR: 'it returns false'. Refute it at one input. -/
def identUsersWrong : ChangeSpec := { name := "identUsers", fn := fun _ => fun
  | [d] => { results := [.lit (.bool false)], args := [d] }
  | _ => none }
def IdentUsersWrongFalsely : Prop := identUsersRow.holds Try.pinned (OpenSpec.ofChange identUsersWrong)

/-- 'hustingslaw10.IdentRooms': WHATEVER THE INPUT: true; the input reads as it did. -/
def identRoomsSpec : ChangeSpec := { name := "identRooms", fn := fun _ => fun
  | [d] => { results := [.lit (.bool true)], args := [d] }
  | _ => none }
def identRoomsRow : OpenClaim := { program := "ytaadojnkamjilaa", sum := "b46a302ad20866cd4ac8be7ed0de929ab8b02a8ea44be46287212c888ff8c0e3", func := "hustings/hustingslaw10.IdentRooms", spec := "identRooms", inPlace := ["internal/bytealg.IndexByteString", "internal/bytealg.IndexString"], unfollowed := true, recurses := true, named := ["internal/bytealg.MaxLen"], apart := false }
def IdentRoomsSaid : Prop := identRoomsRow.holds Try.pinned (OpenSpec.ofChange identRoomsSpec)

/-- ITS FALSE NEIGHBOUR: 'it returns false'. Refute it at one input. -/
def identRoomsWrong : ChangeSpec := { name := "identRooms", fn := fun _ => fun
  | [d] => { results := [.lit (.bool false)], args := [d] }
  | _ => none }
def IdentRoomsWrongFalsely : Prop := identRoomsRow.holds Try.pinned (OpenSpec.ofChange identRoomsWrong)

/-- 'hustingslaw10.IdentKeys': WHATEVER THE INPUT: true; the input reads as it did. -/
def identKeysSpec : ChangeSpec := { name := "identKeys", fn := fun _ => fun
  | [d] => { results := [.lit (.bool true)], args := [d] }
  | _ => none }
def identKeysRow : OpenClaim := { program := "ytaadojnkamjilaa", sum := "b46a302ad20866cd4ac8be7ed0de929ab8b02a8ea44be46287212c888ff8c0e3", func := "hustings/hustingslaw10.IdentKeys", spec := "identKeys", inPlace := ["internal/bytealg.IndexByteString", "internal/bytealg.IndexString"], unfollowed := true, recurses := true, named := ["internal/bytealg.MaxLen"], apart := false }
def IdentKeysSaid : Prop := identKeysRow.holds Try.pinned (OpenSpec.ofChange identKeysSpec)

/-- ITS FALSE NEIGHBOUR: 'it returns false'. Refute it at one input. -/
def identKeysWrong : ChangeSpec := { name := "identKeys", fn := fun _ => fun
  | [d] => { results := [.lit (.bool false)], args := [d] }
  | _ => none }
def IdentKeysWrongFalsely : Prop := identKeysRow.holds Try.pinned (OpenSpec.ofChange identKeysWrong)

/-- 'hustingslaw10.IdentEvents': WHATEVER THE INPUT: true; the input reads as it did. -/
def identEventsSpec : ChangeSpec := { name := "identEvents", fn := fun _ => fun
  | [d1, d2] => { results := [.lit (.bool true)], args := [d1, d2] }
  | _ => none }
def identEventsRow : OpenClaim := { program := "ytaadojnkamjilaa", sum := "b46a302ad20866cd4ac8be7ed0de929ab8b02a8ea44be46287212c888ff8c0e3", func := "hustings/hustingslaw10.IdentEvents", spec := "identEvents", apart := false }
def IdentEventsSaid : Prop := identEventsRow.holds Try.pinned (OpenSpec.ofChange identEventsSpec)

/-- ITS FALSE NEIGHBOUR: 'it returns false'. Refute it at one input. -/
def identEventsWrong : ChangeSpec := { name := "identEvents", fn := fun _ => fun
  | [d1, d2] => { results := [.lit (.bool false)], args := [d1, d2] }
  | _ => none }
def IdentEventsWrongFalsely : Prop := identEventsRow.holds Try.pinned (OpenSpec.ofChange identEventsWrong)

/-- 'hustingslaw10.IdentDomains': WHATEVER THE INPUT: true; the input reads as it did. -/
def identDomainsSpec : ChangeSpec := { name := "identDomains", fn := fun _ => fun
  | [d] => { results := [.lit (.bool true)], args := [d] }
  | _ => none }
def identDomainsRow : OpenClaim := { program := "ytaadojnkamjilaa", sum := "b46a302ad20866cd4ac8be7ed0de929ab8b02a8ea44be46287212c888ff8c0e3", func := "hustings/hustingslaw10.IdentDomains", spec := "identDomains", inPlace := ["internal/bytealg.IndexByteString", "internal/bytealg.IndexString"], unfollowed := true, recurses := true, named := ["internal/bytealg.MaxLen"], apart := false }
def IdentDomainsSaid : Prop := identDomainsRow.holds Try.pinned (OpenSpec.ofChange identDomainsSpec)

/-- ITS FALSE NEIGHBOUR: 'it returns false'. Refute it at one input. -/
def identDomainsWrong : ChangeSpec := { name := "identDomains", fn := fun _ => fun
  | [d] => { results := [.lit (.bool false)], args := [d] }
  | _ => none }
def IdentDomainsWrongFalsely : Prop := identDomainsRow.holds Try.pinned (OpenSpec.ofChange identDomainsWrong)

/- THE SECOND FORM. 'bulk': how many values and letters a reading holds, each counted each time it is reached (what is shared counts as often as it is met; a slice's spare places count too). A statement '..UptoSaid' is the law's where the arguments, and the package variables that the reading takes, are together of bulk at most 1048576: NARROWER than '..Said'. Prove '..Said' where nothing that the law and all that it calls make is longer than what came in: it says more and counts as full. Else prove '..UptoSaid'. A law counts once. -/
mutual
def uptoBulk {H : Type} : DataW H → Nat
  | .lit (.string bytes) => bytes.length + 1
  | .lit _ => 1
  | .nil => 1
  | .ptr d => uptoBulk d + 1
  | .slice elems spare => uptoBulkAll elems + uptoBulkAll spare + 1
  | .agg parts => uptoBulkAll parts + 1
  | .iface _ d => uptoBulk d + 1
  | .map entries => uptoBulkEntries entries + 1
  | .held _ => 1
def uptoBulkAll {H : Type} : List (DataW H) → Nat
  | [] => 0
  | d :: r => uptoBulk d + uptoBulkAll r
def uptoBulkEntries {H : Type} : List (Lit × DataW H) → Nat
  | [] => 0
  | x :: r => uptoBulkEntry x + uptoBulkEntries r
def uptoBulkEntry {H : Type} : Lit × DataW H → Nat
  | (.string bytes, d) => bytes.length + uptoBulk d + 1
  | (_, d) => uptoBulk d + 1
 end
def uptoSmall : (H : Type) → List (DataW H) → Bool := fun _ ds => decide (uptoBulkAll ds ≤ 1048576)
def OpenSpec.upto (s : _root_.Go.ChangeSpec) : _root_.Go.OpenSpec := { _root_.Go.OpenSpec.ofChange s with cond := some uptoSmall }

/-- 'hustingslaw10.IdentServers', WHERE WHAT IT READS IS OF BULK AT MOST 1048576: true; the input reads as it did. -/
def identServersUptoRow : OpenClaim := { program := "ytaadojnkamjilaa", sum := "b46a302ad20866cd4ac8be7ed0de929ab8b02a8ea44be46287212c888ff8c0e3", func := "hustings/hustingslaw10.IdentServers", spec := "identServers", inPlace := ["internal/bytealg.IndexByteString", "internal/bytealg.IndexString"], unfollowed := true, recurses := true, named := ["internal/bytealg.MaxLen"], apart := false, narrowed := true }
def IdentServersUptoSaid : Prop := identServersUptoRow.holds Try.pinned (OpenSpec.upto identServersSpec)

/-- 'hustingslaw10.IdentUsers', WHERE WHAT IT READS IS OF BULK AT MOST 1048576: true; the input reads as it did. -/
def identUsersUptoRow : OpenClaim := { program := "ytaadojnkamjilaa", sum := "b46a302ad20866cd4ac8be7ed0de929ab8b02a8ea44be46287212c888ff8c0e3", func := "hustings/hustingslaw10.IdentUsers", spec := "identUsers", inPlace := ["internal/bytealg.IndexByteString", "internal/bytealg.IndexString"], unfollowed := true, recurses := true, named := ["internal/bytealg.MaxLen"], apart := false, narrowed := true }
def IdentUsersUptoSaid : Prop := identUsersUptoRow.holds Try.pinned (OpenSpec.upto identUsersSpec)

/-- 'hustingslaw10.IdentRooms', WHERE WHAT IT READS IS OF BULK AT MOST 1048576: true; the input reads as it did. -/
def identRoomsUptoRow : OpenClaim := { program := "ytaadojnkamjilaa", sum := "b46a302ad20866cd4ac8be7ed0de929ab8b02a8ea44be46287212c888ff8c0e3", func := "hustings/hustingslaw10.IdentRooms", spec := "identRooms", inPlace := ["internal/bytealg.IndexByteString", "internal/bytealg.IndexString"], unfollowed := true, recurses := true, named := ["internal/bytealg.MaxLen"], apart := false, narrowed := true }
def IdentRoomsUptoSaid : Prop := identRoomsUptoRow.holds Try.pinned (OpenSpec.upto identRoomsSpec)

/-- 'hustingslaw10.IdentKeys', WHERE WHAT IT READS IS OF BULK AT MOST 1048576: true; the input reads as it did. -/
def identKeysUptoRow : OpenClaim := { program := "ytaadojnkamjilaa", sum := "b46a302ad20866cd4ac8be7ed0de929ab8b02a8ea44be46287212c888ff8c0e3", func := "hustings/hustingslaw10.IdentKeys", spec := "identKeys", inPlace := ["internal/bytealg.IndexByteString", "internal/bytealg.IndexString"], unfollowed := true, recurses := true, named := ["internal/bytealg.MaxLen"], apart := false, narrowed := true }
def IdentKeysUptoSaid : Prop := identKeysUptoRow.holds Try.pinned (OpenSpec.upto identKeysSpec)

/-- 'hustingslaw10.IdentEvents', WHERE WHAT IT READS IS OF BULK AT MOST 1048576: true; the input reads as it did. -/
def identEventsUptoRow : OpenClaim := { program := "ytaadojnkamjilaa", sum := "b46a302ad20866cd4ac8be7ed0de929ab8b02a8ea44be46287212c888ff8c0e3", func := "hustings/hustingslaw10.IdentEvents", spec := "identEvents", apart := false, narrowed := true }
def IdentEventsUptoSaid : Prop := identEventsUptoRow.holds Try.pinned (OpenSpec.upto identEventsSpec)

/-- 'hustingslaw10.IdentDomains', WHERE WHAT IT READS IS OF BULK AT MOST 1048576: true; the input reads as it did. -/
def identDomainsUptoRow : OpenClaim := { program := "ytaadojnkamjilaa", sum := "b46a302ad20866cd4ac8be7ed0de929ab8b02a8ea44be46287212c888ff8c0e3", func := "hustings/hustingslaw10.IdentDomains", spec := "identDomains", inPlace := ["internal/bytealg.IndexByteString", "internal/bytealg.IndexString"], unfollowed := true, recurses := true, named := ["internal/bytealg.MaxLen"], apart := false, narrowed := true }
def IdentDomainsUptoSaid : Prop := identDomainsUptoRow.holds Try.pinned (OpenSpec.upto identDomainsSpec)

end Rows
end Go.Proofs.Ytaadojnkamjilaa
