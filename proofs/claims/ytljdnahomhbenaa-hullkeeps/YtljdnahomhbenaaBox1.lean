/- Contracts of the program's Meet and Join, and of the reference's Right, Has, Meet. -/
import Derived.Test.YtljdnahomhbenaaPt3
namespace Go.Proofs.Ytljdnahomhbenaa
open Go.RowKit Go.Sort

/-- Eight cells of two boxes. -/
structure BoxesAre (W : World) (b : Nat) (a0 a1 a2 a3 b0 b1 b2 b3 : Int) : Prop where
  c0 : W.cell? ⟨b, 0, none⟩ = some (.int .i32 a0)
  c1 : W.cell? ⟨b, 1, none⟩ = some (.int .i32 a1)
  c2 : W.cell? ⟨b, 2, none⟩ = some (.int .i32 a2)
  c3 : W.cell? ⟨b, 3, none⟩ = some (.int .i32 a3)
  c4 : W.cell? ⟨b + 1, 0, none⟩ = some (.int .i32 b0)
  c5 : W.cell? ⟨b + 1, 1, none⟩ = some (.int .i32 b1)
  c6 : W.cell? ⟨b + 1, 2, none⟩ = some (.int .i32 b2)
  c7 : W.cell? ⟨b + 1, 3, none⟩ = some (.int .i32 b3)
theorem BoxesAre.gr {W W' : World} {b : Nat} {a0 a1 a2 a3 b0 b1 b2 b3 : Int} (h : BoxesAre W b a0 a1 a2 a3 b0 b1 b2 b3) (g : Below W.heap.size W W') : BoxesAre W' b a0 a1 a2 a3 b0 b1 b2 b3 :=
  ⟨below_cell h.c0 g, below_cell h.c1 g, below_cell h.c2 g, below_cell h.c3 g, below_cell h.c4 g, below_cell h.c5 g, below_cell h.c6 g, below_cell h.c7 g⟩
theorem BoxesAre.new (w : World) (a0 a1 a2 a3 b0 b1 b2 b3 : Int) : BoxesAre ((w.alloc (.cells #[.int .i32 a0, .int .i32 a1, .int .i32 a2, .int .i32 a3] 65)).alloc (.cells #[.int .i32 b0, .int .i32 b1, .int .i32 b2, .int .i32 b3] 65)) w.heap.size a0 a1 a2 a3 b0 b1 b2 b3 :=
  ⟨by go_simp, by go_simp, by go_simp, by go_simp, by go_simp, by go_simp, by go_simp, by go_simp⟩

/-- Whether two boxes meet. -/
def meetB (a0 a1 a2 a3 b0 b1 b2 b3 : Int) : Bool := rightB (maxI a0 b0) (maxI a1 b1) (minI a2 b2) (minI a3 b3)
theorem meet_apart (a0 a1 a2 a3 b0 b1 b2 b3 : Int) : meetB a0 a1 a2 a3 b0 b1 b2 b3 = (rightB a0 a1 a2 a3 && rightB b0 b1 b2 b3 && !(decide (a2 < b0) || decide (b2 < a0) || decide (a3 < b1) || decide (b3 < a1))) := by
  unfold meetB rightB maxI minI
  grind

end Go.Proofs.Ytljdnahomhbenaa
