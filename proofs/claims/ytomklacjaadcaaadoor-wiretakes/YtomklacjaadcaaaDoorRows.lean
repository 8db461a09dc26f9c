/-
  NARROWER THAN 'FOR EVERY INPUT', by the rows' own cells (each row's printed sentence says how): WireLays: laid · WireTakes: laid · WireBack: laid · WireAgain: laid · WireFrames: laid · WireTurned: laid.
  DERIVED. THE GIVEN ROWS OF THIS SEAT. 6 by the template 'for every input the law returns true; each argument reads behind the call as it read before'; 0 by the template 'total and deterministic' (their statements: YtomklacjaadcaaaDoorTotals.lean).
  GIVEN WITH THE SEED: the statements are not yours to turn. If you find one false, say at which input.
  Laid BY PROGRAM, IN A SANDBOX (cutbox-rows.mjs): the forced cells as the released guide's own fill.sh prints them over the translation 30343b07309cf88a… (all of the seat's roots in one cut). By AI agents, Wed Nov 11 2026. No macro, syntax, notation, axiom, sorry.
-/
import Derived.Test.YtomklacjaadcaaaDoorChecked
import GoSem.Claim
import GoSem.ClaimJoined
import GoSem.ClaimMapViews
import Derived.JoinedTies
import Derived.KernelRfl
namespace Go.Proofs.YtomklacjaadcaaaDoor
/- THE CELL 'sum', in the pinned program and in every row, IS THE sha256 OF THE DUMP (.gsa) THAT YtomklacjaadcaaaDoorProg.lean LOADS. Nothing in Lean hashes anything: it is a label: what it is worth is what the hold of that sum in a sandbox is worth. -/
noncomputable def Tryd.pinned : Pinned := { name := "ytomklacjaadcaaadoor", sum := "30343b07309cf88aa955afdb864574e4215416cb239e8498b9d5a5b85a559eaa", checked := Tryd.checked }
namespace Rows
def none {H : Type} : Left H := { results := [], args := [] }

/- WHAT THE LISTED PACKAGE-LEVEL VARIABLES READ AS WHEN THE CALL BEGINS. Each datum BY PROGRAM (the guide's laid-datum.mjs) off the statement by which the dump's own 'gosem.cut.vars' lays the variable. In a bare row this is a premise. The card (YtomklacjaadcaaaDoorCards.lean) ties it to the program's text. -/
def laid_paddock_wire_remainders {H : Type} : DataW H := .agg [.lit (.int .u32 0), .lit (.int .u32 498536548), .lit (.int .u32 997073096), .lit (.int .u32 651767980), .lit (.int .u32 1994146192), .lit (.int .u32 1802195444), .lit (.int .u32 1303535960), .lit (.int .u32 1342533948), .lit (.int .u32 3988292384), .lit (.int .u32 4027552580), .lit (.int .u32 3604390888), .lit (.int .u32 3412177804), .lit (.int .u32 2607071920), .lit (.int .u32 2262029012), .lit (.int .u32 2685067896), .lit (.int .u32 3183342108)]

/-- 'paddocklaw03.WireLays': WHATEVER THE INPUT: true; the input reads as it did. -/
def wireLaysSpec : ChangeSpec := { name := "wireLays", fn := fun _ => fun
  | [d1, d2, d3] => { results := [.lit (.bool true)], args := [d1, d2, d3] }
  | _ => none }
def wireLaysRow : OpenClaim := { program := "ytomklacjaadcaaadoor", sum := "30343b07309cf88aa955afdb864574e4215416cb239e8498b9d5a5b85a559eaa", func := "paddock/paddocklaw03.WireLays", spec := "wireLays", inPlace := ["math.Float64frombits", "math.Float64bits"], named := ["paddock/wire.remainders"], apart := false, laid := [("paddock/wire.remainders", laid_paddock_wire_remainders)] }
def WireLaysSaid : Prop := wireLaysRow.holds Tryd.pinned (OpenSpec.ofChange wireLaysSpec)

/-- ITS FALSE NEIGHBOUR: 'it returns false'. Refute it at one input. -/
def wireLaysWrong : ChangeSpec := { name := "wireLays", fn := fun _ => fun
  | [d1, d2, d3] => { results := [.lit (.bool false)], args := [d1, d2, d3] }
  | _ => none }
def WireLaysWrongFalsely : Prop := wireLaysRow.holds Tryd.pinned (OpenSpec.ofChange wireLaysWrong)

/-- 'paddocklaw03.WireTakes': WHATEVER THE INPUT: true; the input reads as it did. -/
def wireTakesSpec : ChangeSpec := { name := "wireTakes", fn := fun _ => fun
  | [d1, d2] => { results := [.lit (.bool true)], args := [d1, d2] }
  | _ => none }
def wireTakesRow : OpenClaim := { program := "ytomklacjaadcaaadoor", sum := "30343b07309cf88aa955afdb864574e4215416cb239e8498b9d5a5b85a559eaa", func := "paddock/paddocklaw03.WireTakes", spec := "wireTakes", inPlace := ["math.Float64frombits", "math.Float64bits"], named := ["paddock/wire.remainders"], apart := false, laid := [("paddock/wire.remainders", laid_paddock_wire_remainders)] }
def WireTakesSaid : Prop := wireTakesRow.holds Tryd.pinned (OpenSpec.ofChange wireTakesSpec)

/-- ITS FALSE NEIGHBOUR: 'it returns false'. Refute it at one input. -/
def wireTakesWrong : ChangeSpec := { name := "wireTakes", fn := fun _ => fun
  | [d1, d2] => { results := [.lit (.bool false)], args := [d1, d2] }
  | _ => none }
def WireTakesWrongFalsely : Prop := wireTakesRow.holds Tryd.pinned (OpenSpec.ofChange wireTakesWrong)

/-- 'paddocklaw03.WireBack': WHATEVER THE INPUT: true; the input reads as it did. -/
def wireBackSpec : ChangeSpec := { name := "wireBack", fn := fun _ => fun
  | [d] => { results := [.lit (.bool true)], args := [d] }
  | _ => none }
def wireBackRow : OpenClaim := { program := "ytomklacjaadcaaadoor", sum := "30343b07309cf88aa955afdb864574e4215416cb239e8498b9d5a5b85a559eaa", func := "paddock/paddocklaw03.WireBack", spec := "wireBack", inPlace := ["math.Float64frombits", "math.Float64bits"], named := ["paddock/wire.remainders"], apart := false, laid := [("paddock/wire.remainders", laid_paddock_wire_remainders)] }
def WireBackSaid : Prop := wireBackRow.holds Tryd.pinned (OpenSpec.ofChange wireBackSpec)

/-- ITS FALSE NEIGHBOUR: 'it returns false'. Refute it at one input. -/
def wireBackWrong : ChangeSpec := { name := "wireBack", fn := fun _ => fun
  | [d] => { results := [.lit (.bool false)], args := [d] }
  | _ => none }
def WireBackWrongFalsely : Prop := wireBackRow.holds Tryd.pinned (OpenSpec.ofChange wireBackWrong)

/-- 'paddocklaw03.WireAgain': WHATEVER THE INPUT: true; the input reads as it did. -/
def wireAgainSpec : ChangeSpec := { name := "wireAgain", fn := fun _ => fun
  | [d1, d2] => { results := [.lit (.bool true)], args := [d1, d2] }
  | _ => none }
def wireAgainRow : OpenClaim := { program := "ytomklacjaadcaaadoor", sum := "30343b07309cf88aa955afdb864574e4215416cb239e8498b9d5a5b85a559eaa", func := "paddock/paddocklaw03.WireAgain", spec := "wireAgain", inPlace := ["math.Float64frombits", "math.Float64bits"], named := ["paddock/wire.remainders"], apart := false, laid := [("paddock/wire.remainders", laid_paddock_wire_remainders)] }
def WireAgainSaid : Prop := wireAgainRow.holds Tryd.pinned (OpenSpec.ofChange wireAgainSpec)

/-- ITS FALSE NEIGHBOUR: 'it returns false'. Refute it at one input. -/
def wireAgainWrong : ChangeSpec := { name := "wireAgain", fn := fun _ => fun
  | [d1, d2] => { results := [.lit (.bool false)], args := [d1, d2] }
  | _ => none }
def WireAgainWrongFalsely : Prop := wireAgainRow.holds Tryd.pinned (OpenSpec.ofChange wireAgainWrong)

/-- 'paddocklaw03.WireFrames': WHATEVER THE INPUT: true; the input reads as it did. -/
def wireFramesSpec : ChangeSpec := { name := "wireFrames", fn := fun _ => fun
  | [d1, d2] => { results := [.lit (.bool true)], args := [d1, d2] }
  | _ => none }
def wireFramesRow : OpenClaim := { program := "ytomklacjaadcaaadoor", sum := "30343b07309cf88aa955afdb864574e4215416cb239e8498b9d5a5b85a559eaa", func := "paddock/paddocklaw03.WireFrames", spec := "wireFrames", unfollowed := true, recurses := true, named := ["paddock/wire.remainders"], apart := false, laid := [("paddock/wire.remainders", laid_paddock_wire_remainders)] }
def WireFramesSaid : Prop := wireFramesRow.holds Tryd.pinned (OpenSpec.ofChange wireFramesSpec)

/-- ITS FALSE NEIGHBOUR: 'it returns false'. Refute it at one input. -/
def wireFramesWrong : ChangeSpec := { name := "wireFrames", fn := fun _ => fun
  | [d1, d2] => { results := [.lit (.bool false)], args := [d1, d2] }
  | _ => none }
def WireFramesWrongFalsely : Prop := wireFramesRow.holds Tryd.pinned (OpenSpec.ofChange wireFramesWrong)

/-- 'paddocklaw03.WireTurned': WHATEVER THE INPUT: true; the input reads as it did. -/
def wireTurnedSpec : ChangeSpec := { name := "wireTurned", fn := fun _ => fun
  | [d] => { results := [.lit (.bool true)], args := [d] }
  | _ => none }
def wireTurnedRow : OpenClaim := { program := "ytomklacjaadcaaadoor", sum := "30343b07309cf88aa955afdb864574e4215416cb239e8498b9d5a5b85a559eaa", func := "paddock/paddocklaw03.WireTurned", spec := "wireTurned", named := ["paddock/wire.remainders"], apart := false, laid := [("paddock/wire.remainders", laid_paddock_wire_remainders)] }
def WireTurnedSaid : Prop := wireTurnedRow.holds Tryd.pinned (OpenSpec.ofChange wireTurnedSpec)

/-- ITS FALSE NEIGHBOUR: 'it returns false'. Refute it at one input. -/
def wireTurnedWrong : ChangeSpec := { name := "wireTurned", fn := fun _ => fun
  | [d] => { results := [.lit (.bool false)], args := [d] }
  | _ => none }
def WireTurnedWrongFalsely : Prop := wireTurnedRow.holds Tryd.pinned (OpenSpec.ofChange wireTurnedWrong)

/- THE SECOND FORM. 'bulk': how many values and letters a reading holds, each counted each time it is reached (what is shared counts as often as it is met; a slice's spare places count too). A statement '..UptoSaid' is the law's where the arguments, and the package variables that the reading takes, are together of bulk at most 1048576: NARROWER than '..Said'. Prove '..Said' where nothing that the law and all that it calls make is longer than what came in: it says more and counts as full. Else prove '..UptoSaid'. A law counts once. -/
mutual
def uptoBulk {H : Type} : DataW H → Nat
  | .lit (.string bytes) => bytes.length + 1
  | .lit _ => 1
  | .nil => 1
  | .ptr d => uptoBulk d + 1
  | .slice elems spare => uptoBulkAll elems + uptoBulkAll spare + 1
  | .agg parts => uptoBulkAll parts + 1
  | .iface _ d => uptoBulk d + 1
  | .map entries => uptoBulkEntries entries + 1
  | .held _ => 1
def uptoBulkAll {H : Type} : List (DataW H) → Nat
  | [] => 0
  | d :: r => uptoBulk d + uptoBulkAll r
def uptoBulkEntries {H : Type} : List (Lit × DataW H) → Nat
  | [] => 0
  | x :: r => uptoBulkEntry x + uptoBulkEntries r
def uptoBulkEntry {H : Type} : Lit × DataW H → Nat
  | (.string bytes, d) => bytes.length + uptoBulk d + 1
  | (_, d) => uptoBulk d + 1
 end
def uptoSmall : (H : Type) → List (DataW H) → Bool := fun _ ds => decide (uptoBulkAll ds ≤ 1048576)
def OpenSpec.upto (s : _root_.Go.ChangeSpec) : _root_.Go.OpenSpec := { _root_.Go.OpenSpec.ofChange s with cond := some uptoSmall }

/-- 'paddocklaw03.WireLays', WHERE WHAT IT READS IS OF BULK AT MOST 1048576: true; the input reads as it did. -/
def wireLaysUptoRow : OpenClaim := { program := "ytomklacjaadcaaadoor", sum := "30343b07309cf88aa955afdb864574e4215416cb239e8498b9d5a5b85a559eaa", func := "paddock/paddocklaw03.WireLays", spec := "wireLays", inPlace := ["math.Float64frombits", "math.Float64bits"], named := ["paddock/wire.remainders"], apart := false, laid := [("paddock/wire.remainders", laid_paddock_wire_remainders)], narrowed := true }
def WireLaysUptoSaid : Prop := wireLaysUptoRow.holds Tryd.pinned (OpenSpec.upto wireLaysSpec)

/-- 'paddocklaw03.WireTakes', WHERE WHAT IT READS IS OF BULK AT MOST 1048576: true; the input reads as it did. -/
def wireTakesUptoRow : OpenClaim := { program := "ytomklacjaadcaaadoor", sum := "30343b07309cf88aa955afdb864574e4215416cb239e8498b9d5a5b85a559eaa", func := "paddock/paddocklaw03.WireTakes", spec := "wireTakes", inPlace := ["math.Float64frombits", "math.Float64bits"], named := ["paddock/wire.remainders"], apart := false, laid := [("paddock/wire.remainders", laid_paddock_wire_remainders)], narrowed := true }
def WireTakesUptoSaid : Prop := wireTakesUptoRow.holds Tryd.pinned (OpenSpec.upto wireTakesSpec)

/-- 'paddocklaw03.WireBack', WHERE WHAT IT READS IS OF BULK AT MOST 1048576: true; the input reads as it did. -/
def wireBackUptoRow : OpenClaim := { program := "ytomklacjaadcaaadoor", sum := "30343b07309cf88aa955afdb864574e4215416cb239e8498b9d5a5b85a559eaa", func := "paddock/paddocklaw03.WireBack", spec := "wireBack", inPlace := ["math.Float64frombits", "math.Float64bits"], named := ["paddock/wire.remainders"], apart := false, laid := [("paddock/wire.remainders", laid_paddock_wire_remainders)], narrowed := true }
def WireBackUptoSaid : Prop := wireBackUptoRow.holds Tryd.pinned (OpenSpec.upto wireBackSpec)

/-- 'paddocklaw03.WireAgain', WHERE WHAT IT READS IS OF BULK AT MOST 1048576: true; the input reads as it did. -/
def wireAgainUptoRow : OpenClaim := { program := "ytomklacjaadcaaadoor", sum := "30343b07309cf88aa955afdb864574e4215416cb239e8498b9d5a5b85a559eaa", func := "paddock/paddocklaw03.WireAgain", spec := "wireAgain", inPlace := ["math.Float64frombits", "math.Float64bits"], named := ["paddock/wire.remainders"], apart := false, laid := [("paddock/wire.remainders", laid_paddock_wire_remainders)], narrowed := true }
def WireAgainUptoSaid : Prop := wireAgainUptoRow.holds Tryd.pinned (OpenSpec.upto wireAgainSpec)

/-- 'paddocklaw03.WireFrames', WHERE WHAT IT READS IS OF BULK AT MOST 1048576: true; the input reads as it did. -/
def wireFramesUptoRow : OpenClaim := { program := "ytomklacjaadcaaadoor", sum := "30343b07309cf88aa955afdb864574e4215416cb239e8498b9d5a5b85a559eaa", func := "paddock/paddocklaw03.WireFrames", spec := "wireFrames", unfollowed := true, recurses := true, named := ["paddock/wire.remainders"], apart := false, laid := [("paddock/wire.remainders", laid_paddock_wire_remainders)], narrowed := true }
def WireFramesUptoSaid : Prop := wireFramesUptoRow.holds Tryd.pinned (OpenSpec.upto wireFramesSpec)

/-- 'paddocklaw03.WireTurned', WHERE WHAT IT READS IS OF BULK AT MOST 1048576: true; the input reads as it did. -/
def wireTurnedUptoRow : OpenClaim := { program := "ytomklacjaadcaaadoor", sum := "30343b07309cf88aa955afdb864574e4215416cb239e8498b9d5a5b85a559eaa", func := "paddock/paddocklaw03.WireTurned", spec := "wireTurned", named := ["paddock/wire.remainders"], apart := false, laid := [("paddock/wire.remainders", laid_paddock_wire_remainders)], narrowed := true }
def WireTurnedUptoSaid : Prop := wireTurnedUptoRow.holds Tryd.pinned (OpenSpec.upto wireTurnedSpec)

end Rows
end Go.Proofs.YtomklacjaadcaaaDoor
