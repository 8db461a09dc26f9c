/- ShapeAlike's arguments, opened. -/
import Derived.Test.YtgcofpfjdplopaaGreatAl9J
import Derived.Test.YtgcofpfjdplopaaGreatRows
import Derived.ProofKit
import Derived.OpenShut
import Derived.Lib.SmallJoins
import Derived.SizedLaws
import Derived.Carry
import Derived.Deep.Strs
namespace Go.Proofs.YtgcofpfjdplopaaGreat
section
open Go.ChangeShapes Go.WideShapes Go.ChangeAt Go.RowKit Go.Joins

theorem cellsA21 : Tryz.prog.cellsOf 21 = 1 := by kernel_rfl
theorem cellsA26 : Tryz.prog.cellsOf 26 = 4 := by kernel_rfl
theorem cellsA28 : Tryz.prog.cellsOf 28 = 2 := by kernel_rfl
theorem cellsA30 : Tryz.prog.cellsOf 30 = 8 := by kernel_rfl
theorem list2a {α : Type} {l : List α} (h : l.length = 2) : ∃ c0 c1, l = [c0, c1] := by
  match l, h with
  | [c0, c1], _ => exact ⟨c0, c1, rfl⟩
theorem array2a {α : Type} {cs : Array α} (h : cs.size = 2) : ∃ c0 c1, cs = #[c0, c1] := by
  obtain ⟨l⟩ := cs
  match l, h with
  | [c0, c1], _ => exact ⟨c0, c1, rfl⟩
theorem array8a {α : Type} {cs : Array α} (h : cs.size = 8) : ∃ c0 c1 c2 c3 c4 c5 c6 c7, cs = #[c0, c1, c2, c3, c4, c5, c6, c7] := by
  obtain ⟨l⟩ := cs
  match l, h with
  | [c0, c1, c2, c3, c4, c5, c6, c7], _ => exact ⟨c0, c1, c2, c3, c4, c5, c6, c7, rfl⟩
section
variable {H : Type} {enc : TypeId × Value → H} {w : World} {base : Nat} {spare : Nat → Bool} {held : Bool}
set_option maxRecDepth 100000 in
theorem trod_ptA {fuel : Nat} {cs : List Value} {z : DataW H × List MemPlace} (h : DataW.trod enc Tryz.prog w base spare held fuel 28 cs = some z) :
    ∃ x y, cs = [.int .i32 x, .int .i32 y] := by
  obtain ⟨y0, y1, n, hx, hl, h0, h1⟩ := trod_struct2 Tryz.underlying28 h
  obtain ⟨c0, c1, rfl⟩ := list2a (hl.trans cellsA28)
  simp only [cellsA21, List.drop_zero, List.take_succ_cons, List.take_zero, List.drop_succ_cons] at h0 h1
  obtain ⟨x, e0, rfl, wx⟩ := DataW.trod_int Tryz.underlying21 h0
  obtain ⟨y, e1, rfl, wy⟩ := DataW.trod_int Tryz.underlying21 h1
  simp only [List.cons.injEq, and_true] at e0 e1
  subst e0 e1
  exact ⟨x, y, rfl⟩
set_option maxRecDepth 100000 in
theorem open_ptA {r : Reach} {b0 : Nat} {v : Value} {d : DataW H} {p : List MemPlace} (hv : Value.okWide Tryz.prog w r b0 28 v) (h : DataW.Trod enc Tryz.prog w base spare held 28 v d p) :
    ∃ x y, v = pt x y := by
  obtain ⟨cs, rfl, hsz⟩ := okWide_struct Tryz.underlying28 hv
  obtain ⟨c0, c1, rfl⟩ := array2a (hsz.trans cellsA28)
  obtain ⟨fuel, hf⟩ := h
  obtain ⟨x, y, e⟩ := trod_ptA hf
  simp only [Value.cells, List.cons.injEq, and_true] at e
  obtain ⟨rfl, rfl⟩ := e
  exact ⟨x, y, rfl⟩
set_option maxRecDepth 100000 in
theorem open_askA {r : Reach} {b0 : Nat} {v : Value} {d : DataW H} {p : List MemPlace} (hv : Value.okWide Tryz.prog w r b0 30 v) (h : DataW.Trod enc Tryz.prog w base spare held 30 v d p) :
    ∃ s0 s1 s2 s3, ∃ p q : P2, v = .agg #[s0, s1, s2, s3, .int .i32 p.1, .int .i32 p.2, .int .i32 q.1, .int .i32 q.2] := by
  obtain ⟨cs, rfl, hsz⟩ := okWide_struct Tryz.underlying30 hv
  obtain ⟨c0, c1, c2, c3, c4, c5, c6, c7, rfl⟩ := array8a (hsz.trans cellsA30)
  obtain ⟨fuel, hf⟩ := h
  obtain ⟨y0, y1, y2, n, hx, _, h0, h1, h2⟩ := Go.Deep.trod_struct3 Tryz.underlying30 hf
  simp only [Value.cells, cellsA28, List.drop_zero, List.take_succ_cons, List.take_zero, List.drop_succ_cons] at h1 h2
  obtain ⟨px, py, e1⟩ := trod_ptA h1
  obtain ⟨qx, qy, e2⟩ := trod_ptA h2
  simp only [List.cons.injEq, and_true] at e1 e2
  obtain ⟨rfl, rfl⟩ := e1
  obtain ⟨rfl, rfl⟩ := e2
  exact ⟨c0, c1, c2, c3, (px, py), (qx, qy), rfl⟩
end
end
end Go.Proofs.YtgcofpfjdplopaaGreat
