/-
  No cell of these rows narrows 'for every input' (looked for: loops, veiled, ifaces, maps, wideKeys, modest, calm, conditions, laid).
  DERIVED. THE GIVEN ROWS OF THIS SEAT. 6 by the template 'for every input the law returns true; each argument reads behind the call as it read before'; 0 by the template 'total and deterministic' (their statements: YtgcofpfjdplopaaGreatTotals.lean).
  GIVEN WITH THE SEED: the statements are not yours to turn. If you find one false, say at which input.
  Laid BY PROGRAM, IN A SANDBOX (cutbox-rows.mjs): the forced cells as the released guide's own fill.sh prints them over the translation 8e9b704998897dea… (all of the seat's roots in one cut). By AI agents, Wed Nov 11 2026. No macro, syntax, notation, axiom, sorry.
-/
import Derived.Test.YtgcofpfjdplopaaGreatChecked
import GoSem.Claim
import GoSem.ClaimJoined
import GoSem.ClaimMapViews
import Derived.JoinedTies
import Derived.KernelRfl
namespace Go.Proofs.YtgcofpfjdplopaaGreat
/- THE CELL 'sum', in the pinned program and in every row, IS THE sha256 OF THE DUMP (.gsa) THAT YtgcofpfjdplopaaGreatProg.lean LOADS. Nothing in Lean hashes anything: it is a label: what it is worth is what the hold of that sum in a sandbox is worth. -/
noncomputable def Tryz.pinned : Pinned := { name := "ytgcofpfjdplopaagreat", sum := "8e9b704998897dea7915348f60d16149888ba6aaad35392635b994e968bd5638", checked := Tryz.checked }
namespace Rows
def none {H : Type} : Left H := { results := [], args := [] }

/-- 'paddocklaw09.ShapeExact': WHATEVER THE INPUT: true; the input reads as it did. -/
def shapeExactSpec : ChangeSpec := { name := "shapeExact", fn := fun _ => fun
  | [d] => { results := [.lit (.bool true)], args := [d] }
  | _ => none }
def shapeExactRow : OpenClaim := { program := "ytgcofpfjdplopaagreat", sum := "8e9b704998897dea7915348f60d16149888ba6aaad35392635b994e968bd5638", func := "paddock/paddocklaw09.ShapeExact", spec := "shapeExact", inPlace := ["math/bits.Sub64"], unfollowed := true, recurses := true, apart := false }
def ShapeExactSaid : Prop := shapeExactRow.holds Tryz.pinned (OpenSpec.ofChange shapeExactSpec)

/-- ITS FALSE NEIGHBOUR: 'it returns false'. Refute it at one input. -/
def shapeExactWrong : ChangeSpec := { name := "shapeExact", fn := fun _ => fun
  | [d] => { results := [.lit (.bool false)], args := [d] }
  | _ => none }
def ShapeExactWrongFalsely : Prop := shapeExactRow.holds Tryz.pinned (OpenSpec.ofChange shapeExactWrong)

/-- 'paddocklaw09.ShapeSame': WHATEVER THE INPUT: true; the input reads as it did. -/
def shapeSameSpec : ChangeSpec := { name := "shapeSame", fn := fun _ => fun
  | [d1, d2] => { results := [.lit (.bool true)], args := [d1, d2] }
  | _ => none }
def shapeSameRow : OpenClaim := { program := "ytgcofpfjdplopaagreat", sum := "8e9b704998897dea7915348f60d16149888ba6aaad35392635b994e968bd5638", func := "paddock/paddocklaw09.ShapeSame", spec := "shapeSame", inPlace := ["math/bits.Sub64"], unfollowed := true, recurses := true, apart := false }
def ShapeSameSaid : Prop := shapeSameRow.holds Tryz.pinned (OpenSpec.ofChange shapeSameSpec)

/-- ITS FALSE NEIGHBOUR: 'it returns false'. Refute it at one input. -/
def shapeSameWrong : ChangeSpec := { name := "shapeSame", fn := fun _ => fun
  | [d1, d2] => { results := [.lit (.bool false)], args := [d1, d2] }
  | _ => none }
def ShapeSameWrongFalsely : Prop := shapeSameRow.holds Tryz.pinned (OpenSpec.ofChange shapeSameWrong)

/-- 'paddocklaw09.ShapeBytes': WHATEVER THE INPUT: true; the input reads as it did. -/
def shapeBytesSpec : ChangeSpec := { name := "shapeBytes", fn := fun _ => fun
  | [d1, d2] => { results := [.lit (.bool true)], args := [d1, d2] }
  | _ => none }
def shapeBytesRow : OpenClaim := { program := "ytgcofpfjdplopaagreat", sum := "8e9b704998897dea7915348f60d16149888ba6aaad35392635b994e968bd5638", func := "paddock/paddocklaw09.ShapeBytes", spec := "shapeBytes", inPlace := ["math/bits.Sub64"], unfollowed := true, recurses := true, apart := false }
def ShapeBytesSaid : Prop := shapeBytesRow.holds Tryz.pinned (OpenSpec.ofChange shapeBytesSpec)

/-- ITS FALSE NEIGHBOUR: 'it returns false'. Refute it at one input. -/
def shapeBytesWrong : ChangeSpec := { name := "shapeBytes", fn := fun _ => fun
  | [d1, d2] => { results := [.lit (.bool false)], args := [d1, d2] }
  | _ => none }
def ShapeBytesWrongFalsely : Prop := shapeBytesRow.holds Tryz.pinned (OpenSpec.ofChange shapeBytesWrong)

/-- 'paddocklaw09.ShapeTells': WHATEVER THE INPUT: true; the input reads as it did. -/
def shapeTellsSpec : ChangeSpec := { name := "shapeTells", fn := fun _ => fun
  | [d] => { results := [.lit (.bool true)], args := [d] }
  | _ => none }
def shapeTellsRow : OpenClaim := { program := "ytgcofpfjdplopaagreat", sum := "8e9b704998897dea7915348f60d16149888ba6aaad35392635b994e968bd5638", func := "paddock/paddocklaw09.ShapeTells", spec := "shapeTells", inPlace := ["math/bits.Sub64"], unfollowed := true, recurses := true, apart := false }
def ShapeTellsSaid : Prop := shapeTellsRow.holds Tryz.pinned (OpenSpec.ofChange shapeTellsSpec)

/-- ITS FALSE NEIGHBOUR: 'it returns false'. Refute it at one input. -/
def shapeTellsWrong : ChangeSpec := { name := "shapeTells", fn := fun _ => fun
  | [d] => { results := [.lit (.bool false)], args := [d] }
  | _ => none }
def ShapeTellsWrongFalsely : Prop := shapeTellsRow.holds Tryz.pinned (OpenSpec.ofChange shapeTellsWrong)

/-- 'paddocklaw09.ShapeTurns': WHATEVER THE INPUT: true; the input reads as it did. -/
def shapeTurnsSpec : ChangeSpec := { name := "shapeTurns", fn := fun _ => fun
  | [d] => { results := [.lit (.bool true)], args := [d] }
  | _ => none }
def shapeTurnsRow : OpenClaim := { program := "ytgcofpfjdplopaagreat", sum := "8e9b704998897dea7915348f60d16149888ba6aaad35392635b994e968bd5638", func := "paddock/paddocklaw09.ShapeTurns", spec := "shapeTurns", inPlace := ["math/bits.Sub64"], unfollowed := true, recurses := true, apart := false }
def ShapeTurnsSaid : Prop := shapeTurnsRow.holds Tryz.pinned (OpenSpec.ofChange shapeTurnsSpec)

/-- ITS FALSE NEIGHBOUR: 'it returns false'. Refute it at one input. -/
def shapeTurnsWrong : ChangeSpec := { name := "shapeTurns", fn := fun _ => fun
  | [d] => { results := [.lit (.bool false)], args := [d] }
  | _ => none }
def ShapeTurnsWrongFalsely : Prop := shapeTurnsRow.holds Tryz.pinned (OpenSpec.ofChange shapeTurnsWrong)

/-- 'paddocklaw09.ShapeAlike': WHATEVER THE INPUT: true; the input reads as it did. -/
def shapeAlikeSpec : ChangeSpec := { name := "shapeAlike", fn := fun _ => fun
  | [d1, d2, d3] => { results := [.lit (.bool true)], args := [d1, d2, d3] }
  | _ => none }
def shapeAlikeRow : OpenClaim := { program := "ytgcofpfjdplopaagreat", sum := "8e9b704998897dea7915348f60d16149888ba6aaad35392635b994e968bd5638", func := "paddock/paddocklaw09.ShapeAlike", spec := "shapeAlike", inPlace := ["math/bits.Sub64"], unfollowed := true, recurses := true, apart := false }
def ShapeAlikeSaid : Prop := shapeAlikeRow.holds Tryz.pinned (OpenSpec.ofChange shapeAlikeSpec)

/-- ITS FALSE NEIGHBOUR: 'it returns false'. Refute it at one input. -/
def shapeAlikeWrong : ChangeSpec := { name := "shapeAlike", fn := fun _ => fun
  | [d1, d2, d3] => { results := [.lit (.bool false)], args := [d1, d2, d3] }
  | _ => none }
def ShapeAlikeWrongFalsely : Prop := shapeAlikeRow.holds Tryz.pinned (OpenSpec.ofChange shapeAlikeWrong)

/- THE SECOND FORM. 'bulk': how many values and letters a reading holds, each counted each time it is reached (what is shared counts as often as it is met; a slice's spare places count too). A statement '..UptoSaid' is the law's where the arguments, and the package variables that the reading takes, are together of bulk at most 1048576: NARROWER than '..Said'. Prove '..Said' where nothing that the law and all that it calls make is longer than what came in: it says more and counts as full. Else prove '..UptoSaid'. A law counts once. -/
mutual
def uptoBulk {H : Type} : DataW H → Nat
  | .lit (.string bytes) => bytes.length + 1
  | .lit _ => 1
  | .nil => 1
  | .ptr d => uptoBulk d + 1
  | .slice elems spare => uptoBulkAll elems + uptoBulkAll spare + 1
  | .agg parts => uptoBulkAll parts + 1
  | .iface _ d => uptoBulk d + 1
  | .map entries => uptoBulkEntries entries + 1
  | .held _ => 1
def uptoBulkAll {H : Type} : List (DataW H) → Nat
  | [] => 0
  | d :: r => uptoBulk d + uptoBulkAll r
def uptoBulkEntries {H : Type} : List (Lit × DataW H) → Nat
  | [] => 0
  | x :: r => uptoBulkEntry x + uptoBulkEntries r
def uptoBulkEntry {H : Type} : Lit × DataW H → Nat
  | (.string bytes, d) => bytes.length + uptoBulk d + 1
  | (_, d) => uptoBulk d + 1
 end
def uptoSmall : (H : Type) → List (DataW H) → Bool := fun _ ds => decide (uptoBulkAll ds ≤ 1048576)
def OpenSpec.upto (s : _root_.Go.ChangeSpec) : _root_.Go.OpenSpec := { _root_.Go.OpenSpec.ofChange s with cond := some uptoSmall }

/-- 'paddocklaw09.ShapeExact', WHERE WHAT IT READS IS OF BULK AT MOST 1048576: true; the input reads as it did. -/
def shapeExactUptoRow : OpenClaim := { program := "ytgcofpfjdplopaagreat", sum := "8e9b704998897dea7915348f60d16149888ba6aaad35392635b994e968bd5638", func := "paddock/paddocklaw09.ShapeExact", spec := "shapeExact", inPlace := ["math/bits.Sub64"], unfollowed := true, recurses := true, apart := false, narrowed := true }
def ShapeExactUptoSaid : Prop := shapeExactUptoRow.holds Tryz.pinned (OpenSpec.upto shapeExactSpec)

/-- 'paddocklaw09.ShapeSame', WHERE WHAT IT READS IS OF BULK AT MOST 1048576: true; the input reads as it did. -/
def shapeSameUptoRow : OpenClaim := { program := "ytgcofpfjdplopaagreat", sum := "8e9b704998897dea7915348f60d16149888ba6aaad35392635b994e968bd5638", func := "paddock/paddocklaw09.ShapeSame", spec := "shapeSame", inPlace := ["math/bits.Sub64"], unfollowed := true, recurses := true, apart := false, narrowed := true }
def ShapeSameUptoSaid : Prop := shapeSameUptoRow.holds Tryz.pinned (OpenSpec.upto shapeSameSpec)

/-- 'paddocklaw09.ShapeBytes', WHERE WHAT IT READS IS OF BULK AT MOST 1048576: true; the input reads as it did. -/
def shapeBytesUptoRow : OpenClaim := { program := "ytgcofpfjdplopaagreat", sum := "8e9b704998897dea7915348f60d16149888ba6aaad35392635b994e968bd5638", func := "paddock/paddocklaw09.ShapeBytes", spec := "shapeBytes", inPlace := ["math/bits.Sub64"], unfollowed := true, recurses := true, apart := false, narrowed := true }
def ShapeBytesUptoSaid : Prop := shapeBytesUptoRow.holds Tryz.pinned (OpenSpec.upto shapeBytesSpec)

/-- 'paddocklaw09.ShapeTells', WHERE WHAT IT READS IS OF BULK AT MOST 1048576: true; the input reads as it did. -/
def shapeTellsUptoRow : OpenClaim := { program := "ytgcofpfjdplopaagreat", sum := "8e9b704998897dea7915348f60d16149888ba6aaad35392635b994e968bd5638", func := "paddock/paddocklaw09.ShapeTells", spec := "shapeTells", inPlace := ["math/bits.Sub64"], unfollowed := true, recurses := true, apart := false, narrowed := true }
def ShapeTellsUptoSaid : Prop := shapeTellsUptoRow.holds Tryz.pinned (OpenSpec.upto shapeTellsSpec)

/-- 'paddocklaw09.ShapeTurns', WHERE WHAT IT READS IS OF BULK AT MOST 1048576: true; the input reads as it did. -/
def shapeTurnsUptoRow : OpenClaim := { program := "ytgcofpfjdplopaagreat", sum := "8e9b704998897dea7915348f60d16149888ba6aaad35392635b994e968bd5638", func := "paddock/paddocklaw09.ShapeTurns", spec := "shapeTurns", inPlace := ["math/bits.Sub64"], unfollowed := true, recurses := true, apart := false, narrowed := true }
def ShapeTurnsUptoSaid : Prop := shapeTurnsUptoRow.holds Tryz.pinned (OpenSpec.upto shapeTurnsSpec)

/-- 'paddocklaw09.ShapeAlike', WHERE WHAT IT READS IS OF BULK AT MOST 1048576: true; the input reads as it did. -/
def shapeAlikeUptoRow : OpenClaim := { program := "ytgcofpfjdplopaagreat", sum := "8e9b704998897dea7915348f60d16149888ba6aaad35392635b994e968bd5638", func := "paddock/paddocklaw09.ShapeAlike", spec := "shapeAlike", inPlace := ["math/bits.Sub64"], unfollowed := true, recurses := true, apart := false, narrowed := true }
def ShapeAlikeUptoSaid : Prop := shapeAlikeUptoRow.holds Tryz.pinned (OpenSpec.upto shapeAlikeSpec)

end Rows
end Go.Proofs.YtgcofpfjdplopaaGreat
