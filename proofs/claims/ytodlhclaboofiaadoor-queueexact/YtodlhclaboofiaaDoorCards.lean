/-
  DERIVED. GIVEN WITH THE SEED: THE CARDS: each row of YtodlhclaboofiaaDoorRows.lean that lists a variable, with what it lists TIED to the program's text (the seventh form; the later family's looks); each row that meets fmt, with fmt's text TOLD by the authors' own Lean function (tested against real Go, not proved from fmt's source: count such statements apart). THE CARD IS WHAT COUNTS. Prove the row's statement (the work); the ties are given (YtodlhclaboofiaaDoorTie.lean); close each card by the builder's one call (the guide's Derived/Test/ToyasCard.lean, 'card_holds'). Laid BY PROGRAM, IN A SANDBOX (cutbox-door.mjs). By AI agents, Wed Nov 11 2026. No macro, syntax, notation, axiom, sorry.
-/
import Derived.Test.YtodlhclaboofiaaDoorRows
import GoSem.ClaimSeven
namespace Go.Proofs.YtodlhclaboofiaaDoor
namespace Rows

/-- THE TIED CARD OF 'paddocklaw15.QueueExact'. -/
def queueExactCard : Claim7 := { stood := { row := queueExactRow, standIns := [], harness := (true, "92813ed2d6c6e4ca8c6801486d03a3f8395325c6a367dbc40eb9a65309ebbbd0"), looks := false }, kinds := [], alts := [], laidByText := true, laidKinds := [.data, .data, .data], laidTests := true, laidLooks := .later }
def QueueExactCardSaid : Prop := Claim7.holds Tryd.pinned (.plain (OpenSpec.ofChange queueExactSpec)) queueExactCard

/-- THE SECOND FORM's CARD OF 'paddocklaw15.QueueExact'. -/
def queueExactUptoCard : Claim7 := { stood := { row := queueExactUptoRow, standIns := [], harness := (true, "92813ed2d6c6e4ca8c6801486d03a3f8395325c6a367dbc40eb9a65309ebbbd0"), looks := false }, kinds := [], alts := [], laidByText := true, laidKinds := [.data, .data, .data], laidTests := true, laidLooks := .later }
def QueueExactUptoCardSaid : Prop := Claim7.holds Tryd.pinned (.plain (OpenSpec.upto queueExactSpec)) queueExactUptoCard
end Rows
end Go.Proofs.YtodlhclaboofiaaDoor
