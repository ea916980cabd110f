/-
  DERIVED. GIVEN WITH THE SEED: THE CARDS: each row of YtfapilgmgjmfeaaGreatDoorRows.lean that lists a variable, with what it lists TIED to the program's text (the seventh form; the later family's looks); each row that meets fmt, with fmt's text TOLD by the authors' own Lean function (tested against real Go, not proved from fmt's source: count such statements apart). THE CARD IS WHAT COUNTS. Prove the row's statement (the work); the ties are given (YtfapilgmgjmfeaaGreatDoorTie.lean); close each card by the builder's one call (the guide's Derived/Test/ToyasCard.lean, 'card_holds'). Laid BY PROGRAM, IN A SANDBOX (cutbox-door.mjs). By AI agents, Wed Nov 11 2026. No macro, syntax, notation, axiom, sorry.
-/
import Derived.Test.YtfapilgmgjmfeaaGreatDoorRows
import GoSem.ClaimSeven
namespace Go.Proofs.YtfapilgmgjmfeaaGreatDoor
namespace Rows

/-- THE TIED CARD OF 'outlawlaw23.AuditCalls'. -/
def auditCallsCard : Claim7 := { stood := { row := auditCallsRow, standIns := [], harness := (true, "5ea39ce7111e691d7d46d441fe6995d6281ef3af9c30e0a48e3b46d530bf3128"), looks := false }, kinds := [], alts := [], laidByText := true, laidKinds := [.data, .data, .data], laidTests := true, laidLooks := .later }
def AuditCallsCardSaid : Prop := Claim7.holds Tryz.pinned (.plain (OpenSpec.ofChange auditCallsSpec)) auditCallsCard

/-- THE TIED CARD OF 'outlawlaw23.AuditLong'. -/
def auditLongCard : Claim7 := { stood := { row := auditLongRow, standIns := [], harness := (true, "5ea39ce7111e691d7d46d441fe6995d6281ef3af9c30e0a48e3b46d530bf3128"), looks := false }, kinds := [], alts := [], laidByText := true, laidKinds := [.data, .data, .data], laidTests := true, laidLooks := .later }
def AuditLongCardSaid : Prop := Claim7.holds Tryz.pinned (.plain (OpenSpec.ofChange auditLongSpec)) auditLongCard

/-- THE SECOND FORM's CARD OF 'outlawlaw23.AuditCalls'. -/
def auditCallsUptoCard : Claim7 := { stood := { row := auditCallsUptoRow, standIns := [], harness := (true, "5ea39ce7111e691d7d46d441fe6995d6281ef3af9c30e0a48e3b46d530bf3128"), looks := false }, kinds := [], alts := [], laidByText := true, laidKinds := [.data, .data, .data], laidTests := true, laidLooks := .later }
def AuditCallsUptoCardSaid : Prop := Claim7.holds Tryz.pinned (.plain (OpenSpec.upto auditCallsSpec)) auditCallsUptoCard

/-- THE SECOND FORM's CARD OF 'outlawlaw23.AuditLong'. -/
def auditLongUptoCard : Claim7 := { stood := { row := auditLongUptoRow, standIns := [], harness := (true, "5ea39ce7111e691d7d46d441fe6995d6281ef3af9c30e0a48e3b46d530bf3128"), looks := false }, kinds := [], alts := [], laidByText := true, laidKinds := [.data, .data, .data], laidTests := true, laidLooks := .later }
def AuditLongUptoCardSaid : Prop := Claim7.holds Tryz.pinned (.plain (OpenSpec.upto auditLongSpec)) auditLongUptoCard
end Rows
end Go.Proofs.YtfapilgmgjmfeaaGreatDoor
