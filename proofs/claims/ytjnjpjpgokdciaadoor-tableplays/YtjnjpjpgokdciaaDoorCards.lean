/-
  DERIVED. GIVEN WITH THE SEED: THE CARDS: each row of YtjnjpjpgokdciaaDoorRows.lean that lists a variable, with what it lists TIED to the program's text (the seventh form; the later family's looks); each row that meets fmt, with fmt's text TOLD by the authors' own Lean function (tested against real Go, not proved from fmt's source: count such statements apart). THE CARD IS WHAT COUNTS. Prove the row's statement (the work); the ties are given (YtjnjpjpgokdciaaDoorTie.lean); close each card by the builder's one call (the guide's Derived/Test/ToyasCard.lean, 'card_holds'). Laid BY PROGRAM, IN A SANDBOX (cutbox-door.mjs). By AI agents, Wed Nov 11 2026. No macro, syntax, notation, axiom, sorry.
-/
import Derived.Test.YtjnjpjpgokdciaaDoorRows
import GoSem.ClaimSeven
namespace Go.Proofs.YtjnjpjpgokdciaaDoor
namespace Rows

/-- THE TIED CARD OF 'paddocklaw17.TablePlays'. -/
def tablePlaysCard : Claim7 := { stood := { row := tablePlaysRow, standIns := [], harness := (true, "9f84e76252a31c591c27e7400d570bc405936db9aa84ec20019621be2c3b6557"), looks := false }, kinds := [], alts := [], laidByText := true, laidKinds := [.data], laidTests := true, laidLooks := .later }
def TablePlaysCardSaid : Prop := Claim7.holds Tryd.pinned (.plain (OpenSpec.ofChange tablePlaysSpec)) tablePlaysCard

/-- THE TIED CARD OF 'paddocklaw17.TableWalks'. -/
def tableWalksCard : Claim7 := { stood := { row := tableWalksRow, standIns := [], harness := (true, "9f84e76252a31c591c27e7400d570bc405936db9aa84ec20019621be2c3b6557"), looks := false }, kinds := [], alts := [], laidByText := true, laidKinds := [.data], laidTests := true, laidLooks := .later }
def TableWalksCardSaid : Prop := Claim7.holds Tryd.pinned (.plain (OpenSpec.ofChange tableWalksSpec)) tableWalksCard

/-- THE TIED CARD OF 'paddocklaw17.TableBits'. -/
def tableBitsCard : Claim7 := { stood := { row := tableBitsRow, standIns := [], harness := (true, "9f84e76252a31c591c27e7400d570bc405936db9aa84ec20019621be2c3b6557"), looks := false }, kinds := [], alts := [], laidByText := true, laidKinds := [.data], laidTests := true, laidLooks := .later }
def TableBitsCardSaid : Prop := Claim7.holds Tryd.pinned (.plain (OpenSpec.ofChange tableBitsSpec)) tableBitsCard

/-- THE SECOND FORM's CARD OF 'paddocklaw17.TablePlays'. -/
def tablePlaysUptoCard : Claim7 := { stood := { row := tablePlaysUptoRow, standIns := [], harness := (true, "9f84e76252a31c591c27e7400d570bc405936db9aa84ec20019621be2c3b6557"), looks := false }, kinds := [], alts := [], laidByText := true, laidKinds := [.data], laidTests := true, laidLooks := .later }
def TablePlaysUptoCardSaid : Prop := Claim7.holds Tryd.pinned (.plain (OpenSpec.upto tablePlaysSpec)) tablePlaysUptoCard

/-- THE SECOND FORM's CARD OF 'paddocklaw17.TableWalks'. -/
def tableWalksUptoCard : Claim7 := { stood := { row := tableWalksUptoRow, standIns := [], harness := (true, "9f84e76252a31c591c27e7400d570bc405936db9aa84ec20019621be2c3b6557"), looks := false }, kinds := [], alts := [], laidByText := true, laidKinds := [.data], laidTests := true, laidLooks := .later }
def TableWalksUptoCardSaid : Prop := Claim7.holds Tryd.pinned (.plain (OpenSpec.upto tableWalksSpec)) tableWalksUptoCard

/-- THE SECOND FORM's CARD OF 'paddocklaw17.TableBits'. -/
def tableBitsUptoCard : Claim7 := { stood := { row := tableBitsUptoRow, standIns := [], harness := (true, "9f84e76252a31c591c27e7400d570bc405936db9aa84ec20019621be2c3b6557"), looks := false }, kinds := [], alts := [], laidByText := true, laidKinds := [.data], laidTests := true, laidLooks := .later }
def TableBitsUptoCardSaid : Prop := Claim7.holds Tryd.pinned (.plain (OpenSpec.upto tableBitsSpec)) tableBitsUptoCard
end Rows
end Go.Proofs.YtjnjpjpgokdciaaDoor
