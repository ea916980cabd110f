/-
  DERIVED. GIVEN WITH THE SEED: THE CARDS: each row of YtmcogncpncfpmaaDoorRows.lean that lists a variable, with what it lists TIED to the program's text (the seventh form; the later family's looks); each row that meets fmt, with fmt's text TOLD by the authors' own Lean function (tested against real Go, not proved from fmt's source: count such statements apart). THE CARD IS WHAT COUNTS. Prove the row's statement (the work); the ties are given (YtmcogncpncfpmaaDoorTie.lean); close each card by the builder's one call (the guide's Derived/Test/ToyasCard.lean, 'card_holds'). Laid BY PROGRAM, IN A SANDBOX (cutbox-door.mjs). By AI agents, Wed Nov 11 2026. No macro, syntax, notation, axiom, sorry.
-/
import Derived.Test.YtmcogncpncfpmaaDoorRows
import GoSem.ClaimSeven
namespace Go.Proofs.YtmcogncpncfpmaaDoor
namespace Rows

/-- THE TIED CARD OF 'outlawlaw08.NfaRun'. -/
def nfaRunCard : Claim7 := { stood := { row := nfaRunRow, standIns := [], harness := (true, "dee8c9f59401e7602dc709d365e4388033dfd64005b65bb7da80cd7ec4b9b21a"), looks := false }, kinds := [], alts := [], laidByText := true, laidKinds := [.data, .pinned], laidTests := true, laidLooks := .later }
def NfaRunCardSaid : Prop := Claim7.holds Tryd.pinned (.plain (OpenSpec.ofChange nfaRunSpec)) nfaRunCard

/-- THE SECOND FORM's CARD OF 'outlawlaw08.NfaRun'. -/
def nfaRunUptoCard : Claim7 := { stood := { row := nfaRunUptoRow, standIns := [], harness := (true, "dee8c9f59401e7602dc709d365e4388033dfd64005b65bb7da80cd7ec4b9b21a"), looks := false }, kinds := [], alts := [], laidByText := true, laidKinds := [.data, .pinned], laidTests := true, laidLooks := .later }
def NfaRunUptoCardSaid : Prop := Claim7.holds Tryd.pinned (.plain (OpenSpec.upto nfaRunSpec)) nfaRunUptoCard
end Rows
end Go.Proofs.YtmcogncpncfpmaaDoor
