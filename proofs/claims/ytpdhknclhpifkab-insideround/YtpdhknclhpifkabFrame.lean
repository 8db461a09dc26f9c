/- What the proofs of layer 4's laws share: how points, boxes and four points are read. -/
import Derived.Test.YtpdhknclhpifkabRows
import Derived.Test.YtpdhknclhpifkabPt1
import Derived.ProofKit
import Derived.OpenShut
import Derived.Lib.SmallJoins
namespace Go.Proofs.Ytpdhknclhpifkab
open Go.ChangeShapes Go.WideShapes Go.ChangeAt Go.RowKit Go.Joins

theorem own : ownKnob Try.prog.godebug = none := by kernel_rfl
theorem Try.cells21 : Try.prog.cellsOf 21 = 1 := by kernel_rfl
theorem Try.cells25 : Try.prog.cellsOf 25 = 2 := by kernel_rfl
theorem Try.cells61 : Try.prog.cellsOf 61 = 4 := by kernel_rfl
theorem wf_i32 {a : Int} (h : (Lit.int .i32 a).wf = true) : in32 a := by
  unfold in32
  simpa [Lit.wf, IntKind.min, IntKind.max, IntKind.signed, IntKind.bits] using h

theorem list2 {α : Type} {l : List α} (h : l.length = 2) : ∃ c0 c1, l = [c0, c1] := by
  match l, h with
  | [c0, c1], _ => exact ⟨c0, c1, rfl⟩
section
variable {H : Type} {enc : TypeId × Value → H} {w : World} {base : Nat} {spare : Nat → Bool} {held : Bool}
abbrev ptD (H : Type) (x y : Int) : DataW H := .agg [.lit (.int .i32 x), .lit (.int .i32 y)]
set_option maxRecDepth 100000 in
theorem trod_pt {fuel : Nat} {cs : List Value} {z : DataW H × List MemPlace} (h : DataW.trod enc Try.prog w base spare held fuel 25 cs = some z) :
    ∃ x y, cs = [.int .i32 x, .int .i32 y] ∧ z = (ptD H x y, []) ∧ (Lit.int .i32 x).wf = true ∧ (Lit.int .i32 y).wf = true := by
  obtain ⟨y0, y1, n, hx, hl, h0, h1⟩ := trod_struct2 Try.underlying25 h
  obtain ⟨c0, c1, rfl⟩ := list2 (hl.trans Try.cells25)
  · simp only [Try.cells21, List.drop_zero, List.take_succ_cons, List.take_zero, List.drop_succ_cons] at h0 h1
    obtain ⟨x, e0, rfl, wx⟩ := DataW.trod_int Try.underlying21 h0
    obtain ⟨y, e1, rfl, wy⟩ := DataW.trod_int Try.underlying21 h1
    simp only [List.cons.injEq, and_true] at e0 e1
    subst e0 e1
    exact ⟨x, y, rfl, by simpa using hx, wx, wy⟩
set_option maxRecDepth 100000 in
theorem mk_pt (x y : Int) (wx : (Lit.int .i32 x).wf = true) (wy : (Lit.int .i32 y).wf = true) : DataW.trod enc Try.prog w base spare held 2 25 [.int .i32 x, .int .i32 y] = some (ptD H x y, []) := by
  have := trod_struct2_mk (enc := enc) (w := w) (base := base) (spare := spare) (held := held) (n := 1) (cs := [.int .i32 x, .int .i32 y]) (y0 := (.lit (.int .i32 x), [])) (y1 := (.lit (.int .i32 y), [])) Try.underlying25 (by simp [Try.cells25])
    (by simp [Try.cells21, DataW.trod, Try.underlying21, wx]) (by simp [Try.cells21, DataW.trod, Try.underlying21, wy])
  simpa using this
set_option maxRecDepth 100000 in
theorem open_pt {r : Reach} {b0 : Nat} {v : Value} {d : DataW H} {p : List MemPlace} (hv : Value.okWide Try.prog w r b0 25 v) (h : DataW.Trod enc Try.prog w base spare held 25 v d p) :
    ∃ x y, v = pt x y ∧ d = ptD H x y ∧ p = [] ∧ (Lit.int .i32 x).wf = true ∧ (Lit.int .i32 y).wf = true := by
  obtain ⟨cs, rfl, hsz⟩ := okWide_struct Try.underlying25 hv
  obtain ⟨c0, c1, rfl⟩ := array2 (hsz.trans Try.cells25)
  obtain ⟨fuel, hf⟩ := h
  obtain ⟨x, y, e, hz, wx, wy⟩ := trod_pt hf
  simp only [Value.cells, List.cons.injEq, and_true] at e
  obtain ⟨rfl, rfl⟩ := e
  simp only [Prod.mk.injEq] at hz
  exact ⟨x, y, rfl, hz.1, hz.2, wx, wy⟩
theorem shut_pt (x y : Int) (wx : (Lit.int .i32 x).wf = true) (wy : (Lit.int .i32 y).wf = true) : DataW.Trod enc Try.prog w base spare held 25 (pt x y) (ptD H x y) [] :=
  ⟨2, by simpa [Value.cells] using mk_pt x y wx wy⟩

theorem array8 {α : Type} {cs : Array α} (h : cs.size = 8) : ∃ c0 c1 c2 c3 c4 c5 c6 c7, cs = #[c0, c1, c2, c3, c4, c5, c6, c7] := by
  obtain ⟨l⟩ := cs
  match l, h with
  | [c0, c1, c2, c3, c4, c5, c6, c7], _ => exact ⟨c0, c1, c2, c3, c4, c5, c6, c7, rfl⟩
abbrev fourD (H : Type) (ox oy ax ay bx by_ px py : Int) : DataW H := .agg [ptD H ox oy, ptD H ax ay, ptD H bx by_, ptD H px py]
abbrev wfs (x y : Int) : Prop := (Lit.int .i32 x).wf = true ∧ (Lit.int .i32 y).wf = true
abbrev bxD (H : Type) (a b c d : Int) : DataW H := .agg [ptD H a b, ptD H c d]
set_option maxRecDepth 100000 in
theorem open_box {r : Reach} {b0 : Nat} {v : Value} {d : DataW H} {p : List MemPlace} (hv : Value.okWide Try.prog w r b0 61 v) (h : DataW.Trod enc Try.prog w base spare held 61 v d p) :
    ∃ a b c e, v = bx a b c e ∧ d = bxD H a b c e ∧ p = [] ∧ wfs a b ∧ wfs c e := by
  obtain ⟨cs, rfl, hsz⟩ := okWide_struct Try.underlying61 hv
  obtain ⟨c0, c1, c2, c3, rfl⟩ := array4 (hsz.trans Try.cells61)
  obtain ⟨fuel, hf⟩ := h
  obtain ⟨y0, y1, n, hx, _, h0, h1⟩ := trod_struct2 Try.underlying61 hf
  simp only [Value.cells, Try.cells25, List.drop_zero, List.take_succ_cons, List.take_zero, List.drop_succ_cons] at h0 h1
  obtain ⟨ox, oy, e0, rfl, w0, w1⟩ := trod_pt h0
  obtain ⟨ax, ay, e1, rfl, w2, w3⟩ := trod_pt h1
  simp only [List.cons.injEq, and_true] at e0 e1
  obtain ⟨rfl, rfl⟩ := e0
  obtain ⟨rfl, rfl⟩ := e1
  simp only [Prod.mk.injEq, List.append_nil] at hx
  exact ⟨ox, oy, ax, ay, rfl, hx.1, hx.2, ⟨w0, w1⟩, ⟨w2, w3⟩⟩
set_option maxRecDepth 100000 in
theorem shut_box {a b c e : Int} (h0 : wfs a b) (h1 : wfs c e) : DataW.Trod enc Try.prog w base spare held 61 (bx a b c e) (bxD H a b c e) [] := by
  have ts := trod_struct2_mk (enc := enc) (w := w) (base := base) (spare := spare) (held := held) (n := 2) (cs := [.int .i32 a, .int .i32 b, .int .i32 c, .int .i32 e])
    (y0 := (ptD H a b, [])) (y1 := (ptD H c e, [])) Try.underlying61 (by simp [Try.cells61])
    (by simpa [Try.cells25] using mk_pt a b h0.1 h0.2) (by simpa [Try.cells25] using mk_pt c e h1.1 h1.2)
  exact ⟨_, by simpa [Value.cells] using ts⟩
end
end Go.Proofs.Ytpdhknclhpifkab
