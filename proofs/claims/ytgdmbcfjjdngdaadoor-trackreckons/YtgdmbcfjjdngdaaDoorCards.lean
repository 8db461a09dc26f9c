/-
  DERIVED. GIVEN WITH THE SEED: THE CARDS: each row of YtgdmbcfjjdngdaaDoorRows.lean that lists a variable, with what it lists TIED to the program's text (the seventh form; the later family's looks); each row that meets fmt, with fmt's text TOLD by the authors' own Lean function (tested against real Go, not proved from fmt's source: count such statements apart). THE CARD IS WHAT COUNTS. Prove the row's statement (the work); the ties are given (YtgdmbcfjjdngdaaDoorTie.lean); close each card by the builder's one call (the guide's Derived/Test/ToyasCard.lean, 'card_holds'). Laid BY PROGRAM, IN A SANDBOX (cutbox-door.mjs). By AI agents, Wed Nov 11 2026. No macro, syntax, notation, axiom, sorry.
-/
import Derived.Test.YtgdmbcfjjdngdaaDoorRows
import GoSem.ClaimSeven
namespace Go.Proofs.YtgdmbcfjjdngdaaDoor
namespace Rows

/-- THE TIED CARD OF 'paddocklaw18.TrackReckons'. -/
def trackReckonsCard : Claim7 := { stood := { row := trackReckonsRow, standIns := [], harness := (true, "8bd7dd14256b5cc57d78c7699df6acf421c53677f90db2e93ef426b8e4a3a604"), looks := false }, kinds := [], alts := [], laidByText := true, laidKinds := [.data, .data], laidTests := true, laidLooks := .later }
def TrackReckonsCardSaid : Prop := Claim7.holds Tryd.pinned (.plain (OpenSpec.ofChange trackReckonsSpec)) trackReckonsCard

/-- THE TIED CARD OF 'paddocklaw18.TrackSpeeds'. -/
def trackSpeedsCard : Claim7 := { stood := { row := trackSpeedsRow, standIns := [], harness := (true, "8bd7dd14256b5cc57d78c7699df6acf421c53677f90db2e93ef426b8e4a3a604"), looks := false }, kinds := [], alts := [], laidByText := true, laidKinds := [.data], laidTests := true, laidLooks := .later }
def TrackSpeedsCardSaid : Prop := Claim7.holds Tryd.pinned (.plain (OpenSpec.ofChange trackSpeedsSpec)) trackSpeedsCard

/-- THE TIED CARD OF 'paddocklaw18.TrackTurns'. -/
def trackTurnsCard : Claim7 := { stood := { row := trackTurnsRow, standIns := [], harness := (true, "8bd7dd14256b5cc57d78c7699df6acf421c53677f90db2e93ef426b8e4a3a604"), looks := false }, kinds := [], alts := [], laidByText := true, laidKinds := [.data, .data], laidTests := true, laidLooks := .later }
def TrackTurnsCardSaid : Prop := Claim7.holds Tryd.pinned (.plain (OpenSpec.ofChange trackTurnsSpec)) trackTurnsCard

/-- THE TIED CARD OF 'paddocklaw18.TrackNil'. -/
def trackNilCard : Claim7 := { stood := { row := trackNilRow, standIns := [], harness := (true, "8bd7dd14256b5cc57d78c7699df6acf421c53677f90db2e93ef426b8e4a3a604"), looks := false }, kinds := [], alts := [], laidByText := true, laidKinds := [.data], laidTests := true, laidLooks := .later }
def TrackNilCardSaid : Prop := Claim7.holds Tryd.pinned (.plain (OpenSpec.ofChange trackNilSpec)) trackNilCard

/-- THE SECOND FORM's CARD OF 'paddocklaw18.TrackReckons'. -/
def trackReckonsUptoCard : Claim7 := { stood := { row := trackReckonsUptoRow, standIns := [], harness := (true, "8bd7dd14256b5cc57d78c7699df6acf421c53677f90db2e93ef426b8e4a3a604"), looks := false }, kinds := [], alts := [], laidByText := true, laidKinds := [.data, .data], laidTests := true, laidLooks := .later }
def TrackReckonsUptoCardSaid : Prop := Claim7.holds Tryd.pinned (.plain (OpenSpec.upto trackReckonsSpec)) trackReckonsUptoCard

/-- THE SECOND FORM's CARD OF 'paddocklaw18.TrackSpeeds'. -/
def trackSpeedsUptoCard : Claim7 := { stood := { row := trackSpeedsUptoRow, standIns := [], harness := (true, "8bd7dd14256b5cc57d78c7699df6acf421c53677f90db2e93ef426b8e4a3a604"), looks := false }, kinds := [], alts := [], laidByText := true, laidKinds := [.data], laidTests := true, laidLooks := .later }
def TrackSpeedsUptoCardSaid : Prop := Claim7.holds Tryd.pinned (.plain (OpenSpec.upto trackSpeedsSpec)) trackSpeedsUptoCard

/-- THE SECOND FORM's CARD OF 'paddocklaw18.TrackTurns'. -/
def trackTurnsUptoCard : Claim7 := { stood := { row := trackTurnsUptoRow, standIns := [], harness := (true, "8bd7dd14256b5cc57d78c7699df6acf421c53677f90db2e93ef426b8e4a3a604"), looks := false }, kinds := [], alts := [], laidByText := true, laidKinds := [.data, .data], laidTests := true, laidLooks := .later }
def TrackTurnsUptoCardSaid : Prop := Claim7.holds Tryd.pinned (.plain (OpenSpec.upto trackTurnsSpec)) trackTurnsUptoCard

/-- THE SECOND FORM's CARD OF 'paddocklaw18.TrackNil'. -/
def trackNilUptoCard : Claim7 := { stood := { row := trackNilUptoRow, standIns := [], harness := (true, "8bd7dd14256b5cc57d78c7699df6acf421c53677f90db2e93ef426b8e4a3a604"), looks := false }, kinds := [], alts := [], laidByText := true, laidKinds := [.data], laidTests := true, laidLooks := .later }
def TrackNilUptoCardSaid : Prop := Claim7.holds Tryd.pinned (.plain (OpenSpec.upto trackNilSpec)) trackNilUptoCard
end Rows
end Go.Proofs.YtgdmbcfjjdngdaaDoor
