/- Four points and two numbers in memory. -/
import Derived.Test.YtgcofpfjdplopaaGreatGcdJ
namespace Go.Proofs.YtgcofpfjdplopaaGreat
section
open Go.RowKit Go.Sort

/-- The four points lie there. -/
structure FourIs (W : World) (b : Nat) (ox oy ax ay bx by_ px py : Int) : Prop where
  c0 : W.cell? ⟨b, 0, none⟩ = some (.int .i32 ox)
  c1 : W.cell? ⟨b, 1, none⟩ = some (.int .i32 oy)
  c2 : W.cell? ⟨b, 2, none⟩ = some (.int .i32 ax)
  c3 : W.cell? ⟨b, 3, none⟩ = some (.int .i32 ay)
  c4 : W.cell? ⟨b, 4, none⟩ = some (.int .i32 bx)
  c5 : W.cell? ⟨b, 5, none⟩ = some (.int .i32 by_)
  c6 : W.cell? ⟨b, 6, none⟩ = some (.int .i32 px)
  c7 : W.cell? ⟨b, 7, none⟩ = some (.int .i32 py)
theorem FourIs.gr {W W' : World} {b : Nat} {ox oy ax ay bx by_ px py : Int} (h : FourIs W b ox oy ax ay bx by_ px py) (g : Gr W W') : FourIs W' b ox oy ax ay bx by_ px py :=
  ⟨below_cell h.c0 g.below, below_cell h.c1 g.below, below_cell h.c2 g.below, below_cell h.c3 g.below, below_cell h.c4 g.below, below_cell h.c5 g.below, below_cell h.c6 g.below, below_cell h.c7 g.below⟩
theorem FourIs.new (w : World) (ox oy ax ay bx by_ px py : Int) : FourIs (w.alloc (.cells #[.int .i32 ox, .int .i32 oy, .int .i32 ax, .int .i32 ay, .int .i32 bx, .int .i32 by_, .int .i32 px, .int .i32 py] 28)) w.heap.size ox oy ax ay bx by_ px py :=
  ⟨by go_simp, by go_simp, by go_simp, by go_simp, by go_simp, by go_simp, by go_simp, by go_simp⟩
structure TwoIs (W : World) (b : Nat) (x y : Int) : Prop where
  c0 : W.cell? ⟨b, 0, none⟩ = some (.int .i32 x)
  c1 : W.cell? ⟨b, 1, none⟩ = some (.int .i32 y)
theorem TwoIs.gr {W W' : World} {b : Nat} {x y : Int} (h : TwoIs W b x y) (g : Gr W W') : TwoIs W' b x y := ⟨below_cell h.c0 g.below, below_cell h.c1 g.below⟩
theorem TwoIs.new (w : World) (x y : Int) : TwoIs (w.alloc (.cells #[.int .i32 x, .int .i32 y] 28)) w.heap.size x y := ⟨by go_simp, by go_simp⟩
theorem in32_wrap (x : Int) : in32 (wrap32 x) := by unfold in32 wrap32; omega
abbrev fourV (ox oy ax ay bx by_ px py : Int) : Value := .agg #[.int .i32 ox, .int .i32 oy, .int .i32 ax, .int .i32 ay, .int .i32 bx, .int .i32 by_, .int .i32 px, .int .i32 py]
end
end Go.Proofs.YtgcofpfjdplopaaGreat
