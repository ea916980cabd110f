/-
  No cell of these rows narrows 'for every input' (looked for: loops, veiled, ifaces, maps, wideKeys, modest, calm, conditions, laid).
  DERIVED. THE GIVEN ROWS OF THIS SEAT. 4 by the template 'for every input the law returns true; each argument reads behind the call as it read before'; 0 by the template 'total and deterministic' (their statements: YtmcogncpncfpmaaTotals.lean).
  GIVEN WITH THE SEED: the statements are not yours to turn. If you find one false, say at which input.
  Laid BY PROGRAM, IN A SANDBOX (cutbox-rows.mjs): the forced cells as the released guide's own fill.sh prints them over the translation 135799d0437f377e… (all of the seat's roots in one cut). By AI agents, Wed Nov 11 2026. No macro, syntax, notation, axiom, sorry.
-/
import Derived.Test.YtmcogncpncfpmaaChecked
import GoSem.Claim
import GoSem.ClaimJoined
import GoSem.ClaimMapViews
import Derived.JoinedTies
import Derived.KernelRfl
namespace Go.Proofs.Ytmcogncpncfpmaa
/- THE CELL 'sum', in the pinned program and in every row, IS THE sha256 OF THE DUMP (.gsa) THAT YtmcogncpncfpmaaProg.lean LOADS. Nothing in Lean hashes anything: it is a label: what it is worth is what the hold of that sum in a sandbox is worth. -/
noncomputable def Try.pinned : Pinned := { name := "ytmcogncpncfpmaa", sum := "135799d0437f377eb7f486778725c5fcee65693592c9a2b9995b6c36e8c0ba11", checked := Try.checked }
namespace Rows
def none {H : Type} : Left H := { results := [], args := [] }

/-- 'outlawlaw08.NfaNames': WHATEVER THE INPUT: true; the input reads as it did. -/
def nfaNamesSpec : ChangeSpec := { name := "nfaNames", fn := fun _ => fun
  | [] => { results := [.lit (.bool true)], args := [] }
  | _ => none }
def nfaNamesRow : OpenClaim := { program := "ytmcogncpncfpmaa", sum := "135799d0437f377eb7f486778725c5fcee65693592c9a2b9995b6c36e8c0ba11", func := "outlaw/outlawlaw08.NfaNames", spec := "nfaNames", inPlace := ["internal/abi.NoEscape"], unfollowed := true, recurses := true, apart := false }
def NfaNamesSaid : Prop := nfaNamesRow.holds Try.pinned (OpenSpec.ofChange nfaNamesSpec)

/-- ITS FALSE NEIGHBOUR: 'it returns false'. Refute it at one input. -/
def nfaNamesWrong : ChangeSpec := { name := "nfaNames", fn := fun _ => fun
  | [] => { results := [.lit (.bool false)], args := [] }
  | _ => none }
def NfaNamesWrongFalsely : Prop := nfaNamesRow.holds Try.pinned (OpenSpec.ofChange nfaNamesWrong)

/-- 'outlawlaw08.NfaCalls': WHATEVER THE INPUT: true; the input reads as it did. -/
def nfaCallsSpec : ChangeSpec := { name := "nfaCalls", fn := fun _ => fun
  | [d1, d2, d3, d4, d5] => { results := [.lit (.bool true)], args := [d1, d2, d3, d4, d5] }
  | _ => none }
def nfaCallsRow : OpenClaim := { program := "ytmcogncpncfpmaa", sum := "135799d0437f377eb7f486778725c5fcee65693592c9a2b9995b6c36e8c0ba11", func := "outlaw/outlawlaw08.NfaCalls", spec := "nfaCalls", inPlace := ["internal/abi.NoEscape"], unfollowed := true, recurses := true, apart := false }
def NfaCallsSaid : Prop := nfaCallsRow.holds Try.pinned (OpenSpec.ofChange nfaCallsSpec)

/-- ITS FALSE NEIGHBOUR: 'it returns false'. Refute it at one input. -/
def nfaCallsWrong : ChangeSpec := { name := "nfaCalls", fn := fun _ => fun
  | [d1, d2, d3, d4, d5] => { results := [.lit (.bool false)], args := [d1, d2, d3, d4, d5] }
  | _ => none }
def NfaCallsWrongFalsely : Prop := nfaCallsRow.holds Try.pinned (OpenSpec.ofChange nfaCallsWrong)

/-- 'outlawlaw08.NfaJoins': WHATEVER THE INPUT: true; the input reads as it did. -/
def nfaJoinsSpec : ChangeSpec := { name := "nfaJoins", fn := fun _ => fun
  | [d1, d2, d3, d4, d5] => { results := [.lit (.bool true)], args := [d1, d2, d3, d4, d5] }
  | _ => none }
def nfaJoinsRow : OpenClaim := { program := "ytmcogncpncfpmaa", sum := "135799d0437f377eb7f486778725c5fcee65693592c9a2b9995b6c36e8c0ba11", func := "outlaw/outlawlaw08.NfaJoins", spec := "nfaJoins", inPlace := ["internal/abi.NoEscape"], unfollowed := true, recurses := true, apart := false }
def NfaJoinsSaid : Prop := nfaJoinsRow.holds Try.pinned (OpenSpec.ofChange nfaJoinsSpec)

/-- ITS FALSE NEIGHBOUR: 'it returns false'. Refute it at one input. -/
def nfaJoinsWrong : ChangeSpec := { name := "nfaJoins", fn := fun _ => fun
  | [d1, d2, d3, d4, d5] => { results := [.lit (.bool false)], args := [d1, d2, d3, d4, d5] }
  | _ => none }
def NfaJoinsWrongFalsely : Prop := nfaJoinsRow.holds Try.pinned (OpenSpec.ofChange nfaJoinsWrong)

/-- 'outlawlaw08.NfaNil': WHATEVER THE INPUT: true; the input reads as it did. -/
def nfaNilSpec : ChangeSpec := { name := "nfaNil", fn := fun _ => fun
  | [d1, d2, d3] => { results := [.lit (.bool true)], args := [d1, d2, d3] }
  | _ => none }
def nfaNilRow : OpenClaim := { program := "ytmcogncpncfpmaa", sum := "135799d0437f377eb7f486778725c5fcee65693592c9a2b9995b6c36e8c0ba11", func := "outlaw/outlawlaw08.NfaNil", spec := "nfaNil", inPlace := ["internal/abi.NoEscape"], unfollowed := true, recurses := true, apart := false }
def NfaNilSaid : Prop := nfaNilRow.holds Try.pinned (OpenSpec.ofChange nfaNilSpec)

/-- ITS FALSE NEIGHBOUR: 'it returns false'. Refute it at one input. -/
def nfaNilWrong : ChangeSpec := { name := "nfaNil", fn := fun _ => fun
  | [d1, d2, d3] => { results := [.lit (.bool false)], args := [d1, d2, d3] }
  | _ => none }
def NfaNilWrongFalsely : Prop := nfaNilRow.holds Try.pinned (OpenSpec.ofChange nfaNilWrong)

/- THE SECOND FORM. 'bulk': how many values and letters a reading holds, each counted each time it is reached (what is shared counts as often as it is met; a slice's spare places count too). A statement '..UptoSaid' is the law's where the arguments, and the package variables that the reading takes, are together of bulk at most 1048576: NARROWER than '..Said'. Prove '..Said' where nothing that the law and all that it calls make is longer than what came in: it says more and counts as full. Else prove '..UptoSaid'. A law counts once. -/
mutual
def uptoBulk {H : Type} : DataW H → Nat
  | .lit (.string bytes) => bytes.length + 1
  | .lit _ => 1
  | .nil => 1
  | .ptr d => uptoBulk d + 1
  | .slice elems spare => uptoBulkAll elems + uptoBulkAll spare + 1
  | .agg parts => uptoBulkAll parts + 1
  | .iface _ d => uptoBulk d + 1
  | .map entries => uptoBulkEntries entries + 1
  | .held _ => 1
def uptoBulkAll {H : Type} : List (DataW H) → Nat
  | [] => 0
  | d :: r => uptoBulk d + uptoBulkAll r
def uptoBulkEntries {H : Type} : List (Lit × DataW H) → Nat
  | [] => 0
  | x :: r => uptoBulkEntry x + uptoBulkEntries r
def uptoBulkEntry {H : Type} : Lit × DataW H → Nat
  | (.string bytes, d) => bytes.length + uptoBulk d + 1
  | (_, d) => uptoBulk d + 1
 end
def uptoSmall : (H : Type) → List (DataW H) → Bool := fun _ ds => decide (uptoBulkAll ds ≤ 1048576)
def OpenSpec.upto (s : _root_.Go.ChangeSpec) : _root_.Go.OpenSpec := { _root_.Go.OpenSpec.ofChange s with cond := some uptoSmall }

/-- 'outlawlaw08.NfaNames', WHERE WHAT IT READS IS OF BULK AT MOST 1048576: true; the input reads as it did. -/
def nfaNamesUptoRow : OpenClaim := { program := "ytmcogncpncfpmaa", sum := "135799d0437f377eb7f486778725c5fcee65693592c9a2b9995b6c36e8c0ba11", func := "outlaw/outlawlaw08.NfaNames", spec := "nfaNames", inPlace := ["internal/abi.NoEscape"], unfollowed := true, recurses := true, apart := false, narrowed := true }
def NfaNamesUptoSaid : Prop := nfaNamesUptoRow.holds Try.pinned (OpenSpec.upto nfaNamesSpec)

/-- 'outlawlaw08.NfaCalls', WHERE WHAT IT READS IS OF BULK AT MOST 1048576: true; the input reads as it did. -/
def nfaCallsUptoRow : OpenClaim := { program := "ytmcogncpncfpmaa", sum := "135799d0437f377eb7f486778725c5fcee65693592c9a2b9995b6c36e8c0ba11", func := "outlaw/outlawlaw08.NfaCalls", spec := "nfaCalls", inPlace := ["internal/abi.NoEscape"], unfollowed := true, recurses := true, apart := false, narrowed := true }
def NfaCallsUptoSaid : Prop := nfaCallsUptoRow.holds Try.pinned (OpenSpec.upto nfaCallsSpec)

/-- 'outlawlaw08.NfaJoins', WHERE WHAT IT READS IS OF BULK AT MOST 1048576: true; the input reads as it did. -/
def nfaJoinsUptoRow : OpenClaim := { program := "ytmcogncpncfpmaa", sum := "135799d0437f377eb7f486778725c5fcee65693592c9a2b9995b6c36e8c0ba11", func := "outlaw/outlawlaw08.NfaJoins", spec := "nfaJoins", inPlace := ["internal/abi.NoEscape"], unfollowed := true, recurses := true, apart := false, narrowed := true }
def NfaJoinsUptoSaid : Prop := nfaJoinsUptoRow.holds Try.pinned (OpenSpec.upto nfaJoinsSpec)

/-- 'outlawlaw08.NfaNil', WHERE WHAT IT READS IS OF BULK AT MOST 1048576: true; the input reads as it did. -/
def nfaNilUptoRow : OpenClaim := { program := "ytmcogncpncfpmaa", sum := "135799d0437f377eb7f486778725c5fcee65693592c9a2b9995b6c36e8c0ba11", func := "outlaw/outlawlaw08.NfaNil", spec := "nfaNil", inPlace := ["internal/abi.NoEscape"], unfollowed := true, recurses := true, apart := false, narrowed := true }
def NfaNilUptoSaid : Prop := nfaNilUptoRow.holds Try.pinned (OpenSpec.upto nfaNilSpec)

end Rows
end Go.Proofs.Ytmcogncpncfpmaa
