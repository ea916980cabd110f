/-
  No cell of these rows narrows 'for every input' (looked for: loops, veiled, ifaces, maps, wideKeys, modest, calm, conditions, laid).
  DERIVED. THE GIVEN ROWS OF THIS SEAT. 5 by the template 'for every input the law returns true; each argument reads behind the call as it read before'; 0 by the template 'total and deterministic' (their statements: YtjdlpfkcikomfabTotals.lean).
  GIVEN WITH THE SEED: the statements are not yours to turn. If you find one false, say at which input.
  Laid BY PROGRAM, IN A SANDBOX (cutbox-rows.mjs): the forced cells as the released guide's own fill.sh prints them over the translation fb2952cd66f3ecde… (all of the seat's roots in one cut). By AI agents, Wed Nov 11 2026. No macro, syntax, notation, axiom, sorry.
-/
import Derived.Test.YtjdlpfkcikomfabChecked
import GoSem.Claim
import GoSem.ClaimJoined
import GoSem.ClaimMapViews
import Derived.JoinedTies
import Derived.KernelRfl
namespace Go.Proofs.Ytjdlpfkcikomfab
/- THE CELL 'sum', in the pinned program and in every row, IS THE sha256 OF THE DUMP (.gsa) THAT YtjdlpfkcikomfabProg.lean LOADS. Nothing in Lean hashes anything: it is a label: what it is worth is what the hold of that sum in a sandbox is worth. -/
noncomputable def Try.pinned : Pinned := { name := "ytjdlpfkcikomfab", sum := "fb2952cd66f3ecde8a8974f5a62ba2791918ceda93ae4db1ece2bb3110434cfe", checked := Try.checked }
namespace Rows
def none {H : Type} : Left H := { results := [], args := [] }

/-- 'outlawlaw04.IdentNames': WHATEVER THE INPUT: true; the input reads as it did. -/
def identNamesSpec : ChangeSpec := { name := "identNames", fn := fun _ => fun
  | [] => { results := [.lit (.bool true)], args := [] }
  | _ => none }
def identNamesRow : OpenClaim := { program := "ytjdlpfkcikomfab", sum := "fb2952cd66f3ecde8a8974f5a62ba2791918ceda93ae4db1ece2bb3110434cfe", func := "outlaw/outlawlaw04.IdentNames", spec := "identNames", inPlace := ["internal/bytealg.IndexByteString", "internal/bytealg.IndexString"], unfollowed := true, recurses := true, named := ["internal/bytealg.MaxLen"], apart := false }
def IdentNamesSaid : Prop := identNamesRow.holds Try.pinned (OpenSpec.ofChange identNamesSpec)

/-- ITS FALSE NEIGHBOUR: 'it returns false'. Refute it at one input. -/
def identNamesWrong : ChangeSpec := { name := "identNames", fn := fun _ => fun
  | [] => { results := [.lit (.bool false)], args := [] }
  | _ => none }
def IdentNamesWrongFalsely : Prop := identNamesRow.holds Try.pinned (OpenSpec.ofChange identNamesWrong)

/-- 'outlawlaw04.IdentCalls': WHATEVER THE INPUT: true; the input reads as it did. -/
def identCallsSpec : ChangeSpec := { name := "identCalls", fn := fun _ => fun
  | [d] => { results := [.lit (.bool true)], args := [d] }
  | _ => none }
def identCallsRow : OpenClaim := { program := "ytjdlpfkcikomfab", sum := "fb2952cd66f3ecde8a8974f5a62ba2791918ceda93ae4db1ece2bb3110434cfe", func := "outlaw/outlawlaw04.IdentCalls", spec := "identCalls", inPlace := ["internal/bytealg.IndexByteString", "internal/bytealg.IndexString"], unfollowed := true, recurses := true, named := ["internal/bytealg.MaxLen"], apart := false }
def IdentCallsSaid : Prop := identCallsRow.holds Try.pinned (OpenSpec.ofChange identCallsSpec)

/-- ITS FALSE NEIGHBOUR: 'it returns false'. Refute it at one input. -/
def identCallsWrong : ChangeSpec := { name := "identCalls", fn := fun _ => fun
  | [d] => { results := [.lit (.bool false)], args := [d] }
  | _ => none }
def IdentCallsWrongFalsely : Prop := identCallsRow.holds Try.pinned (OpenSpec.ofChange identCallsWrong)

/-- 'outlawlaw04.IdentParts': WHATEVER THE INPUT: true; the input reads as it did. -/
def identPartsSpec : ChangeSpec := { name := "identParts", fn := fun _ => fun
  | [d1, d2, d3] => { results := [.lit (.bool true)], args := [d1, d2, d3] }
  | _ => none }
def identPartsRow : OpenClaim := { program := "ytjdlpfkcikomfab", sum := "fb2952cd66f3ecde8a8974f5a62ba2791918ceda93ae4db1ece2bb3110434cfe", func := "outlaw/outlawlaw04.IdentParts", spec := "identParts", inPlace := ["internal/bytealg.IndexByteString", "internal/bytealg.IndexString"], unfollowed := true, recurses := true, named := ["internal/bytealg.MaxLen"], apart := false }
def IdentPartsSaid : Prop := identPartsRow.holds Try.pinned (OpenSpec.ofChange identPartsSpec)

/-- ITS FALSE NEIGHBOUR: 'it returns false'. Refute it at one input. -/
def identPartsWrong : ChangeSpec := { name := "identParts", fn := fun _ => fun
  | [d1, d2, d3] => { results := [.lit (.bool false)], args := [d1, d2, d3] }
  | _ => none }
def IdentPartsWrongFalsely : Prop := identPartsRow.holds Try.pinned (OpenSpec.ofChange identPartsWrong)

/-- 'outlawlaw04.IdentKinds': WHATEVER THE INPUT: true; the input reads as it did. -/
def identKindsSpec : ChangeSpec := { name := "identKinds", fn := fun _ => fun
  | [d] => { results := [.lit (.bool true)], args := [d] }
  | _ => none }
def identKindsRow : OpenClaim := { program := "ytjdlpfkcikomfab", sum := "fb2952cd66f3ecde8a8974f5a62ba2791918ceda93ae4db1ece2bb3110434cfe", func := "outlaw/outlawlaw04.IdentKinds", spec := "identKinds", inPlace := ["internal/bytealg.IndexByteString", "internal/bytealg.IndexString"], unfollowed := true, recurses := true, named := ["internal/bytealg.MaxLen"], apart := false }
def IdentKindsSaid : Prop := identKindsRow.holds Try.pinned (OpenSpec.ofChange identKindsSpec)

/-- ITS FALSE NEIGHBOUR: 'it returns false'. Refute it at one input. -/
def identKindsWrong : ChangeSpec := { name := "identKinds", fn := fun _ => fun
  | [d] => { results := [.lit (.bool false)], args := [d] }
  | _ => none }
def IdentKindsWrongFalsely : Prop := identKindsRow.holds Try.pinned (OpenSpec.ofChange identKindsWrong)

/-- 'outlawlaw04.IdentEvents': WHATEVER THE INPUT: true; the input reads as it did. -/
def identEventsSpec : ChangeSpec := { name := "identEvents", fn := fun _ => fun
  | [d1, d2, d3, d4] => { results := [.lit (.bool true)], args := [d1, d2, d3, d4] }
  | _ => none }
def identEventsRow : OpenClaim := { program := "ytjdlpfkcikomfab", sum := "fb2952cd66f3ecde8a8974f5a62ba2791918ceda93ae4db1ece2bb3110434cfe", func := "outlaw/outlawlaw04.IdentEvents", spec := "identEvents", inPlace := ["internal/bytealg.IndexByteString", "internal/bytealg.IndexString"], unfollowed := true, recurses := true, named := ["internal/bytealg.MaxLen"], apart := false }
def IdentEventsSaid : Prop := identEventsRow.holds Try.pinned (OpenSpec.ofChange identEventsSpec)

/-- ITS FALSE NEIGHBOUR: 'it returns false'. Refute it at one input. -/
def identEventsWrong : ChangeSpec := { name := "identEvents", fn := fun _ => fun
  | [d1, d2, d3, d4] => { results := [.lit (.bool false)], args := [d1, d2, d3, d4] }
  | _ => none }
def IdentEventsWrongFalsely : Prop := identEventsRow.holds Try.pinned (OpenSpec.ofChange identEventsWrong)

/- THE SECOND FORM. 'bulk': how many values and letters a reading holds, each counted each time it is reached (what is shared counts as often as it is met; a slice's spare places count too). A statement '..UptoSaid' is the law's where the arguments, and the package variables that the reading takes, are together of bulk at most 1048576: NARROWER than '..Said'. Prove '..Said' where nothing that the law and all that it calls make is longer than what came in: it says more and counts as full. Else prove '..UptoSaid'. A law counts once. -/
mutual
def uptoBulk {H : Type} : DataW H → Nat
  | .lit (.string bytes) => bytes.length + 1
  | .lit _ => 1
  | .nil => 1
  | .ptr d => uptoBulk d + 1
  | .slice elems spare => uptoBulkAll elems + uptoBulkAll spare + 1
  | .agg parts => uptoBulkAll parts + 1
  | .iface _ d => uptoBulk d + 1
  | .map entries => uptoBulkEntries entries + 1
  | .held _ => 1
def uptoBulkAll {H : Type} : List (DataW H) → Nat
  | [] => 0
  | d :: r => uptoBulk d + uptoBulkAll r
def uptoBulkEntries {H : Type} : List (Lit × DataW H) → Nat
  | [] => 0
  | x :: r => uptoBulkEntry x + uptoBulkEntries r
def uptoBulkEntry {H : Type} : Lit × DataW H → Nat
  | (.string bytes, d) => bytes.length + uptoBulk d + 1
  | (_, d) => uptoBulk d + 1
 end
def uptoSmall : (H : Type) → List (DataW H) → Bool := fun _ ds => decide (uptoBulkAll ds ≤ 1048576)
def OpenSpec.upto (s : _root_.Go.ChangeSpec) : _root_.Go.OpenSpec := { _root_.Go.OpenSpec.ofChange s with cond := some uptoSmall }

/-- 'outlawlaw04.IdentNames', WHERE WHAT IT READS IS OF BULK AT MOST 1048576: true; the input reads as it did. -/
def identNamesUptoRow : OpenClaim := { program := "ytjdlpfkcikomfab", sum := "fb2952cd66f3ecde8a8974f5a62ba2791918ceda93ae4db1ece2bb3110434cfe", func := "outlaw/outlawlaw04.IdentNames", spec := "identNames", inPlace := ["internal/bytealg.IndexByteString", "internal/bytealg.IndexString"], unfollowed := true, recurses := true, named := ["internal/bytealg.MaxLen"], apart := false, narrowed := true }
def IdentNamesUptoSaid : Prop := identNamesUptoRow.holds Try.pinned (OpenSpec.upto identNamesSpec)

/-- 'outlawlaw04.IdentCalls', WHERE WHAT IT READS IS OF BULK AT MOST 1048576: true; the input reads as it did. -/
def identCallsUptoRow : OpenClaim := { program := "ytjdlpfkcikomfab", sum := "fb2952cd66f3ecde8a8974f5a62ba2791918ceda93ae4db1ece2bb3110434cfe", func := "outlaw/outlawlaw04.IdentCalls", spec := "identCalls", inPlace := ["internal/bytealg.IndexByteString", "internal/bytealg.IndexString"], unfollowed := true, recurses := true, named := ["internal/bytealg.MaxLen"], apart := false, narrowed := true }
def IdentCallsUptoSaid : Prop := identCallsUptoRow.holds Try.pinned (OpenSpec.upto identCallsSpec)

/-- 'outlawlaw04.IdentParts', WHERE WHAT IT READS IS OF BULK AT MOST 1048576: true; the input reads as it did. -/
def identPartsUptoRow : OpenClaim := { program := "ytjdlpfkcikomfab", sum := "fb2952cd66f3ecde8a8974f5a62ba2791918ceda93ae4db1ece2bb3110434cfe", func := "outlaw/outlawlaw04.IdentParts", spec := "identParts", inPlace := ["internal/bytealg.IndexByteString", "internal/bytealg.IndexString"], unfollowed := true, recurses := true, named := ["internal/bytealg.MaxLen"], apart := false, narrowed := true }
def IdentPartsUptoSaid : Prop := identPartsUptoRow.holds Try.pinned (OpenSpec.upto identPartsSpec)

/-- 'outlawlaw04.IdentKinds', WHERE WHAT IT READS IS OF BULK AT MOST 1048576: true; the input reads as it did. -/
def identKindsUptoRow : OpenClaim := { program := "ytjdlpfkcikomfab", sum := "fb2952cd66f3ecde8a8974f5a62ba2791918ceda93ae4db1ece2bb3110434cfe", func := "outlaw/outlawlaw04.IdentKinds", spec := "identKinds", inPlace := ["internal/bytealg.IndexByteString", "internal/bytealg.IndexString"], unfollowed := true, recurses := true, named := ["internal/bytealg.MaxLen"], apart := false, narrowed := true }
def IdentKindsUptoSaid : Prop := identKindsUptoRow.holds Try.pinned (OpenSpec.upto identKindsSpec)

/-- 'outlawlaw04.IdentEvents', WHERE WHAT IT READS IS OF BULK AT MOST 1048576: true; the input reads as it did. -/
def identEventsUptoRow : OpenClaim := { program := "ytjdlpfkcikomfab", sum := "fb2952cd66f3ecde8a8974f5a62ba2791918ceda93ae4db1ece2bb3110434cfe", func := "outlaw/outlawlaw04.IdentEvents", spec := "identEvents", inPlace := ["internal/bytealg.IndexByteString", "internal/bytealg.IndexString"], unfollowed := true, recurses := true, named := ["internal/bytealg.MaxLen"], apart := false, narrowed := true }
def IdentEventsUptoSaid : Prop := identEventsUptoRow.holds Try.pinned (OpenSpec.upto identEventsSpec)

end Rows
end Go.Proofs.Ytjdlpfkcikomfab
