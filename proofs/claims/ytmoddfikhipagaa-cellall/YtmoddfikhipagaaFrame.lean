/- What the proofs of layer 11's laws share: how points, cells, boxes and what is asked are read. -/
import Derived.Test.YtmoddfikhipagaaRows
import Derived.Test.YtmoddfikhipagaaBa
import Derived.ProofKit
import Derived.OpenShut
import Derived.Lib.SmallJoins
namespace Go.Proofs.Ytmoddfikhipagaa
open Go.ChangeShapes Go.WideShapes Go.ChangeAt Go.RowKit Go.Joins

theorem own : ownKnob Try.prog.godebug = none := by kernel_rfl
theorem Try.cells21 : Try.prog.cellsOf 21 = 1 := by kernel_rfl
theorem Try.cells23 : Try.prog.cellsOf 23 = 2 := by kernel_rfl
theorem Try.cells25 : Try.prog.cellsOf 25 = 4 := by kernel_rfl
theorem Try.cells26 : Try.prog.cellsOf 26 = 2 := by kernel_rfl
theorem Try.cells28 : Try.prog.cellsOf 28 = 10 := by kernel_rfl
theorem wf_i32 {a : Int} (h : (Lit.int .i32 a).wf = true) : in32 a := by
  unfold in32
  simpa [Lit.wf, IntKind.min, IntKind.max, IntKind.signed, IntKind.bits] using h

theorem list2 {α : Type} {l : List α} (h : l.length = 2) : ∃ c0 c1, l = [c0, c1] := by
  match l, h with
  | [c0, c1], _ => exact ⟨c0, c1, rfl⟩
section
variable {H : Type} {enc : TypeId × Value → H} {w : World} {base : Nat} {spare : Nat → Bool} {held : Bool}
abbrev ptD (H : Type) (x y : Int) : DataW H := .agg [.lit (.int .i32 x), .lit (.int .i32 y)]
set_option maxRecDepth 100000 in
theorem trod_pt {fuel : Nat} {cs : List Value} {z : DataW H × List MemPlace} (h : DataW.trod enc Try.prog w base spare held fuel 23 cs = some z) :
    ∃ x y, cs = [.int .i32 x, .int .i32 y] ∧ z = (ptD H x y, []) ∧ (Lit.int .i32 x).wf = true ∧ (Lit.int .i32 y).wf = true := by
  obtain ⟨y0, y1, n, hx, hl, h0, h1⟩ := trod_struct2 Try.underlying23 h
  obtain ⟨c0, c1, rfl⟩ := list2 (hl.trans Try.cells23)
  · simp only [Try.cells21, List.drop_zero, List.take_succ_cons, List.take_zero, List.drop_succ_cons] at h0 h1
    obtain ⟨x, e0, rfl, wx⟩ := DataW.trod_int Try.underlying21 h0
    obtain ⟨y, e1, rfl, wy⟩ := DataW.trod_int Try.underlying21 h1
    simp only [List.cons.injEq, and_true] at e0 e1
    subst e0 e1
    exact ⟨x, y, rfl, by simpa using hx, wx, wy⟩
set_option maxRecDepth 100000 in
theorem mk_pt (x y : Int) (wx : (Lit.int .i32 x).wf = true) (wy : (Lit.int .i32 y).wf = true) : DataW.trod enc Try.prog w base spare held 2 23 [.int .i32 x, .int .i32 y] = some (ptD H x y, []) := by
  have := trod_struct2_mk (enc := enc) (w := w) (base := base) (spare := spare) (held := held) (n := 1) (cs := [.int .i32 x, .int .i32 y]) (y0 := (.lit (.int .i32 x), [])) (y1 := (.lit (.int .i32 y), [])) Try.underlying23 (by simp [Try.cells23])
    (by simp [Try.cells21, DataW.trod, Try.underlying21, wx]) (by simp [Try.cells21, DataW.trod, Try.underlying21, wy])
  simpa using this
set_option maxRecDepth 100000 in
theorem open_pt {r : Reach} {b0 : Nat} {v : Value} {d : DataW H} {p : List MemPlace} (hv : Value.okWide Try.prog w r b0 23 v) (h : DataW.Trod enc Try.prog w base spare held 23 v d p) :
    ∃ x y, v = pt x y ∧ d = ptD H x y ∧ p = [] ∧ (Lit.int .i32 x).wf = true ∧ (Lit.int .i32 y).wf = true := by
  obtain ⟨cs, rfl, hsz⟩ := okWide_struct Try.underlying23 hv
  obtain ⟨c0, c1, rfl⟩ := array2 (hsz.trans Try.cells23)
  obtain ⟨fuel, hf⟩ := h
  obtain ⟨x, y, e, hz, wx, wy⟩ := trod_pt hf
  simp only [Value.cells, List.cons.injEq, and_true] at e
  obtain ⟨rfl, rfl⟩ := e
  simp only [Prod.mk.injEq] at hz
  exact ⟨x, y, rfl, hz.1, hz.2, wx, wy⟩
theorem shut_pt (x y : Int) (wx : (Lit.int .i32 x).wf = true) (wy : (Lit.int .i32 y).wf = true) : DataW.Trod enc Try.prog w base spare held 23 (pt x y) (ptD H x y) [] :=
  ⟨2, by simpa [Value.cells] using mk_pt x y wx wy⟩

set_option maxRecDepth 100000 in
theorem trod_ce {fuel : Nat} {cs : List Value} {z : DataW H × List MemPlace} (h : DataW.trod enc Try.prog w base spare held fuel 26 cs = some z) :
    ∃ x y, cs = [.int .i32 x, .int .i32 y] ∧ z = (ptD H x y, []) ∧ (Lit.int .i32 x).wf = true ∧ (Lit.int .i32 y).wf = true := by
  obtain ⟨y0, y1, n, hx, hl, h0, h1⟩ := trod_struct2 Try.underlying26 h
  obtain ⟨c0, c1, rfl⟩ := list2 (hl.trans Try.cells26)
  · simp only [Try.cells21, List.drop_zero, List.take_succ_cons, List.take_zero, List.drop_succ_cons] at h0 h1
    obtain ⟨x, e0, rfl, wx⟩ := DataW.trod_int Try.underlying21 h0
    obtain ⟨y, e1, rfl, wy⟩ := DataW.trod_int Try.underlying21 h1
    simp only [List.cons.injEq, and_true] at e0 e1
    subst e0 e1
    exact ⟨x, y, rfl, by simpa using hx, wx, wy⟩
set_option maxRecDepth 100000 in
theorem mk_ce (x y : Int) (wx : (Lit.int .i32 x).wf = true) (wy : (Lit.int .i32 y).wf = true) : DataW.trod enc Try.prog w base spare held 2 26 [.int .i32 x, .int .i32 y] = some (ptD H x y, []) := by
  have := trod_struct2_mk (enc := enc) (w := w) (base := base) (spare := spare) (held := held) (n := 1) (cs := [.int .i32 x, .int .i32 y]) (y0 := (.lit (.int .i32 x), [])) (y1 := (.lit (.int .i32 y), [])) Try.underlying26 (by simp [Try.cells26])
    (by simp [Try.cells21, DataW.trod, Try.underlying21, wx]) (by simp [Try.cells21, DataW.trod, Try.underlying21, wy])
  simpa using this
set_option maxRecDepth 100000 in
theorem open_ce {r : Reach} {b0 : Nat} {v : Value} {d : DataW H} {p : List MemPlace} (hv : Value.okWide Try.prog w r b0 26 v) (h : DataW.Trod enc Try.prog w base spare held 26 v d p) :
    ∃ x y, v = pt x y ∧ d = ptD H x y ∧ p = [] ∧ (Lit.int .i32 x).wf = true ∧ (Lit.int .i32 y).wf = true := by
  obtain ⟨cs, rfl, hsz⟩ := okWide_struct Try.underlying26 hv
  obtain ⟨c0, c1, rfl⟩ := array2 (hsz.trans Try.cells26)
  obtain ⟨fuel, hf⟩ := h
  obtain ⟨x, y, e, hz, wx, wy⟩ := trod_ce hf
  simp only [Value.cells, List.cons.injEq, and_true] at e
  obtain ⟨rfl, rfl⟩ := e
  simp only [Prod.mk.injEq] at hz
  exact ⟨x, y, rfl, hz.1, hz.2, wx, wy⟩
theorem shut_ce (x y : Int) (wx : (Lit.int .i32 x).wf = true) (wy : (Lit.int .i32 y).wf = true) : DataW.Trod enc Try.prog w base spare held 26 (pt x y) (ptD H x y) [] :=
  ⟨2, by simpa [Value.cells] using mk_ce x y wx wy⟩

abbrev wfs (x y : Int) : Prop := (Lit.int .i32 x).wf = true ∧ (Lit.int .i32 y).wf = true
abbrev bxD (H : Type) (a b c d : Int) : DataW H := .agg [ptD H a b, ptD H c d]
set_option maxRecDepth 100000 in
theorem open_box {r : Reach} {b0 : Nat} {v : Value} {d : DataW H} {p : List MemPlace} (hv : Value.okWide Try.prog w r b0 25 v) (h : DataW.Trod enc Try.prog w base spare held 25 v d p) :
    ∃ a b c e, v = bx a b c e ∧ d = bxD H a b c e ∧ p = [] ∧ wfs a b ∧ wfs c e := by
  obtain ⟨cs, rfl, hsz⟩ := okWide_struct Try.underlying25 hv
  obtain ⟨c0, c1, c2, c3, rfl⟩ := array4 (hsz.trans Try.cells25)
  obtain ⟨fuel, hf⟩ := h
  obtain ⟨y0, y1, n, hx, _, h0, h1⟩ := trod_struct2 Try.underlying25 hf
  simp only [Value.cells, Try.cells23, List.drop_zero, List.take_succ_cons, List.take_zero, List.drop_succ_cons] at h0 h1
  obtain ⟨ox, oy, e0, rfl, w0, w1⟩ := trod_pt h0
  obtain ⟨ax, ay, e1, rfl, w2, w3⟩ := trod_pt h1
  simp only [List.cons.injEq, and_true] at e0 e1
  obtain ⟨rfl, rfl⟩ := e0
  obtain ⟨rfl, rfl⟩ := e1
  simp only [Prod.mk.injEq, List.append_nil] at hx
  exact ⟨ox, oy, ax, ay, rfl, hx.1, hx.2, ⟨w0, w1⟩, ⟨w2, w3⟩⟩
set_option maxRecDepth 100000 in
theorem shut_box {a b c e : Int} (h0 : wfs a b) (h1 : wfs c e) : DataW.Trod enc Try.prog w base spare held 25 (bx a b c e) (bxD H a b c e) [] := by
  have ts := trod_struct2_mk (enc := enc) (w := w) (base := base) (spare := spare) (held := held) (n := 2) (cs := [.int .i32 a, .int .i32 b, .int .i32 c, .int .i32 e])
    (y0 := (ptD H a b, [])) (y1 := (ptD H c e, [])) Try.underlying25 (by simp [Try.cells25])
    (by simpa [Try.cells23] using mk_pt a b h0.1 h0.2) (by simpa [Try.cells23] using mk_pt c e h1.1 h1.2)
  exact ⟨_, by simpa [Value.cells] using ts⟩
set_option maxRecDepth 100000 in
theorem trod_box {fuel : Nat} {cs : List Value} {z : DataW H × List MemPlace} (h : DataW.trod enc Try.prog w base spare held fuel 25 cs = some z) :
    ∃ a b c e, cs = [.int .i32 a, .int .i32 b, .int .i32 c, .int .i32 e] ∧ z = (bxD H a b c e, []) ∧ wfs a b ∧ wfs c e := by
  obtain ⟨y0, y1, n, hx, hl, h0, h1⟩ := trod_struct2 Try.underlying25 h
  have hl4 : cs.length = 4 := hl.trans Try.cells25
  match cs, hl4 with
  | [c0, c1, c2, c3], _ =>
    simp only [Try.cells23, List.drop_zero, List.take_succ_cons, List.take_zero, List.drop_succ_cons] at h0 h1
    obtain ⟨ox, oy, e0, rfl, w0, w1⟩ := trod_pt h0
    obtain ⟨ax, ay, e1, rfl, w2, w3⟩ := trod_pt h1
    simp only [List.cons.injEq, and_true] at e0 e1
    obtain ⟨rfl, rfl⟩ := e0
    obtain ⟨rfl, rfl⟩ := e1
    exact ⟨ox, oy, ax, ay, rfl, by simpa using hx, ⟨w0, w1⟩, ⟨w2, w3⟩⟩
set_option maxRecDepth 100000 in
theorem mk_box {a b c e : Int} (h0 : wfs a b) (h1 : wfs c e) : DataW.trod enc Try.prog w base spare held 3 25 [.int .i32 a, .int .i32 b, .int .i32 c, .int .i32 e] = some (bxD H a b c e, []) := by
  have ts := trod_struct2_mk (enc := enc) (w := w) (base := base) (spare := spare) (held := held) (n := 2) (cs := [.int .i32 a, .int .i32 b, .int .i32 c, .int .i32 e])
    (y0 := (ptD H a b, [])) (y1 := (ptD H c e, [])) Try.underlying25 (by simp [Try.cells25])
    (by simpa [Try.cells23] using mk_pt a b h0.1 h0.2) (by simpa [Try.cells23] using mk_pt c e h1.1 h1.2)
  simpa using ts
theorem array10 {α : Type} {cs : Array α} (h : cs.size = 10) : ∃ c0 c1 c2 c3 c4 c5 c6 c7 c8 c9, cs = #[c0, c1, c2, c3, c4, c5, c6, c7, c8, c9] := by
  obtain ⟨l⟩ := cs
  match l, h with
  | [c0, c1, c2, c3, c4, c5, c6, c7, c8, c9], _ => exact ⟨c0, c1, c2, c3, c4, c5, c6, c7, c8, c9, rfl⟩
/-- What is asked: two points, a box, a cell. -/
abbrev askV (px py qx qy a b c e cx cy : Int) : Value := .agg #[.int .i32 px, .int .i32 py, .int .i32 qx, .int .i32 qy, .int .i32 a, .int .i32 b, .int .i32 c, .int .i32 e, .int .i32 cx, .int .i32 cy]
abbrev askD (H : Type) (px py qx qy a b c e cx cy : Int) : DataW H := .agg [ptD H px py, ptD H qx qy, bxD H a b c e, ptD H cx cy]
set_option maxRecDepth 100000 in
theorem mk_pt3 (x y : Int) (wx : (Lit.int .i32 x).wf = true) (wy : (Lit.int .i32 y).wf = true) : DataW.trod enc Try.prog w base spare held 3 23 [.int .i32 x, .int .i32 y] = some (ptD H x y, []) := by
  have := trod_struct2_mk (enc := enc) (w := w) (base := base) (spare := spare) (held := held) (n := 2) (cs := [.int .i32 x, .int .i32 y]) (y0 := (.lit (.int .i32 x), [])) (y1 := (.lit (.int .i32 y), [])) Try.underlying23 (by simp [Try.cells23])
    (by simp [Try.cells21, DataW.trod, Try.underlying21, wx]) (by simp [Try.cells21, DataW.trod, Try.underlying21, wy])
  simpa using this
set_option maxRecDepth 100000 in
theorem mk_ce3 (x y : Int) (wx : (Lit.int .i32 x).wf = true) (wy : (Lit.int .i32 y).wf = true) : DataW.trod enc Try.prog w base spare held 3 26 [.int .i32 x, .int .i32 y] = some (ptD H x y, []) := by
  have := trod_struct2_mk (enc := enc) (w := w) (base := base) (spare := spare) (held := held) (n := 2) (cs := [.int .i32 x, .int .i32 y]) (y0 := (.lit (.int .i32 x), [])) (y1 := (.lit (.int .i32 y), [])) Try.underlying26 (by simp [Try.cells26])
    (by simp [Try.cells21, DataW.trod, Try.underlying21, wx]) (by simp [Try.cells21, DataW.trod, Try.underlying21, wy])
  simpa using this
set_option maxRecDepth 100000 in
theorem open_ask {r : Reach} {b0 : Nat} {v : Value} {d : DataW H} {p : List MemPlace} (hv : Value.okWide Try.prog w r b0 28 v) (h : DataW.Trod enc Try.prog w base spare held 28 v d p) :
    ∃ px py qx qy a b c e cx cy, v = askV px py qx qy a b c e cx cy ∧ d = askD H px py qx qy a b c e cx cy ∧ p = [] ∧ wfs px py ∧ wfs qx qy ∧ (wfs a b ∧ wfs c e) ∧ wfs cx cy := by
  obtain ⟨cs, rfl, hsz⟩ := okWide_struct Try.underlying28 hv
  obtain ⟨c0, c1, c2, c3, c4, c5, c6, c7, c8, c9, rfl⟩ := array10 (hsz.trans Try.cells28)
  obtain ⟨fuel, hf⟩ := h
  obtain ⟨y0, y1, y2, y3, n, hx, _, h0, h1, h2, h3⟩ := trod_struct4 Try.underlying28 hf
  simp only [Value.cells, Try.cells23, Try.cells25, Try.cells26, List.drop_zero, List.take_succ_cons, List.take_zero, List.drop_succ_cons] at h0 h1 h2 h3
  obtain ⟨px, py, e0, rfl, w0, w1⟩ := trod_pt h0
  obtain ⟨qx, qy, e1, rfl, w2, w3⟩ := trod_pt h1
  obtain ⟨a, b, c, e, e2, rfl, w4, w5⟩ := trod_box h2
  obtain ⟨cx, cy, e3, rfl, w6, w7⟩ := trod_ce h3
  simp only [List.cons.injEq, and_true] at e0 e1 e2 e3
  obtain ⟨rfl, rfl⟩ := e0
  obtain ⟨rfl, rfl⟩ := e1
  obtain ⟨rfl, rfl, rfl, rfl⟩ := e2
  obtain ⟨rfl, rfl⟩ := e3
  simp only [Prod.mk.injEq, List.append_nil] at hx
  exact ⟨px, py, qx, qy, a, b, c, e, cx, cy, rfl, hx.1, hx.2, ⟨w0, w1⟩, ⟨w2, w3⟩, ⟨w4, w5⟩, ⟨w6, w7⟩⟩
set_option maxRecDepth 100000 in
theorem shut_ask {px py qx qy a b c e cx cy : Int} (h0 : wfs px py) (h1 : wfs qx qy) (h2 : wfs a b) (h3 : wfs c e) (h4 : wfs cx cy) :
    DataW.Trod enc Try.prog w base spare held 28 (askV px py qx qy a b c e cx cy) (askD H px py qx qy a b c e cx cy) [] := by
  have ts := trod_struct4_mk (enc := enc) (w := w) (base := base) (spare := spare) (held := held) (n := 3) (cs := [.int .i32 px, .int .i32 py, .int .i32 qx, .int .i32 qy, .int .i32 a, .int .i32 b, .int .i32 c, .int .i32 e, .int .i32 cx, .int .i32 cy])
    (y0 := (ptD H px py, [])) (y1 := (ptD H qx qy, [])) (y2 := (bxD H a b c e, [])) (y3 := (ptD H cx cy, [])) Try.underlying28 (by simp [Try.cells28])
    (by simpa [Try.cells23] using mk_pt3 px py h0.1 h0.2) (by simpa [Try.cells23] using mk_pt3 qx qy h1.1 h1.2) (by simpa [Try.cells23, Try.cells25] using mk_box h2 h3) (by simpa [Try.cells23, Try.cells25, Try.cells26] using mk_ce3 cx cy h4.1 h4.2)
  exact ⟨_, by simpa [Value.cells] using ts⟩
end
theorem wf_i64 {a : Int} (h : (Lit.int .i64 a).wf = true) : in64 a := by
  unfold in64
  simpa [Lit.wf, IntKind.min, IntKind.max, IntKind.signed, IntKind.bits] using h
theorem wf_u64 {a : Int} (h : (Lit.int .u64 a).wf = true) : 0 ≤ a ∧ a < 18446744073709551616 := by
  have := h
  simp [Lit.wf, IntKind.min, IntKind.max, IntKind.signed, IntKind.bits] at this
  omega
end Go.Proofs.Ytmoddfikhipagaa
