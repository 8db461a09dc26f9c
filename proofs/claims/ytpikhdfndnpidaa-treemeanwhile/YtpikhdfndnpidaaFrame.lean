/- What the proofs of layer 13's laws share: how points, boxes, numbered boxes and calls are read. -/
import Derived.Test.YtpikhdfndnpidaaRows
import Derived.Test.YtpikhdfndnpidaaTn
import Derived.ProofKit
import Derived.OpenShut
import Derived.Lib.SmallJoins
namespace Go.Proofs.Ytpikhdfndnpidaa
open Go.ChangeShapes Go.WideShapes Go.ChangeAt Go.RowKit Go.Joins

theorem own : ownKnob Try.prog.godebug = none := by kernel_rfl
theorem Try.cells3 : Try.prog.cellsOf 3 = 1 := by kernel_rfl
theorem Try.cells21 : Try.prog.cellsOf 21 = 1 := by kernel_rfl
theorem Try.cells32 : Try.prog.cellsOf 32 = 1 := by kernel_rfl
theorem Try.cells34 : Try.prog.cellsOf 34 = 2 := by kernel_rfl
theorem Try.cells36 : Try.prog.cellsOf 36 = 4 := by kernel_rfl
theorem Try.cells38 : Try.prog.cellsOf 38 = 11 := by kernel_rfl
theorem Try.cells47 : Try.prog.cellsOf 47 = 5 := by kernel_rfl
theorem list2 {α : Type} {l : List α} (h : l.length = 2) : ∃ c0 c1, l = [c0, c1] := by
  match l, h with
  | [c0, c1], _ => exact ⟨c0, c1, rfl⟩
theorem array11 {α : Type} {cs : Array α} (h : cs.size = 11) : ∃ c0 c1 c2 c3 c4 c5 c6 c7 c8 c9 c10, cs = #[c0, c1, c2, c3, c4, c5, c6, c7, c8, c9, c10] := by
  obtain ⟨l⟩ := cs
  match l, h with
  | [c0, c1, c2, c3, c4, c5, c6, c7, c8, c9, c10], _ => exact ⟨c0, c1, c2, c3, c4, c5, c6, c7, c8, c9, c10, rfl⟩
section
variable {H : Type} {enc : TypeId × Value → H} {w : World} {base : Nat} {spare : Nat → Bool} {held : Bool}
abbrev wi (a : Int) : Prop := (Lit.int .i32 a).wf = true
abbrev ptD (H : Type) (x y : Int) : DataW H := .agg [.lit (.int .i32 x), .lit (.int .i32 y)]
set_option maxRecDepth 100000 in
theorem trod_pt {fuel : Nat} {cs : List Value} {z : DataW H × List MemPlace} (h : DataW.trod enc Try.prog w base spare held fuel 34 cs = some z) :
    ∃ x y, cs = [.int .i32 x, .int .i32 y] ∧ z = (ptD H x y, []) ∧ wi x ∧ wi y := by
  obtain ⟨y0, y1, n, hx, hl, h0, h1⟩ := trod_struct2 Try.underlying34 h
  obtain ⟨c0, c1, rfl⟩ := list2 (hl.trans Try.cells34)
  · simp only [Try.cells21, List.drop_zero, List.take_succ_cons, List.take_zero, List.drop_succ_cons] at h0 h1
    obtain ⟨x, e0, rfl, wx⟩ := DataW.trod_int Try.underlying21 h0
    obtain ⟨y, e1, rfl, wy⟩ := DataW.trod_int Try.underlying21 h1
    simp only [List.cons.injEq, and_true] at e0 e1
    subst e0 e1
    exact ⟨x, y, rfl, by simpa using hx, wx, wy⟩
set_option maxRecDepth 100000 in
theorem mk_pt (k : Nat) (x y : Int) (wx : wi x) (wy : wi y) : DataW.trod enc Try.prog w base spare held (k + 2) 34 [.int .i32 x, .int .i32 y] = some (ptD H x y, []) := by
  have := trod_struct2_mk (enc := enc) (w := w) (base := base) (spare := spare) (held := held) (n := k + 1) (cs := [.int .i32 x, .int .i32 y]) (y0 := (.lit (.int .i32 x), [])) (y1 := (.lit (.int .i32 y), [])) Try.underlying34 (by simp [Try.cells34])
    (by simp [Try.cells21, DataW.trod, Try.underlying21, wx]) (by simp [Try.cells21, DataW.trod, Try.underlying21, wy])
  simpa using this
abbrev wq (a b c d : Int) : Prop := (wi a ∧ wi b) ∧ wi c ∧ wi d
abbrev bxD (H : Type) (a b c d : Int) : DataW H := .agg [ptD H a b, ptD H c d]
set_option maxRecDepth 100000 in
theorem trod_box {fuel : Nat} {cs : List Value} {z : DataW H × List MemPlace} (h : DataW.trod enc Try.prog w base spare held fuel 36 cs = some z) :
    ∃ a b c e, cs = [.int .i32 a, .int .i32 b, .int .i32 c, .int .i32 e] ∧ z = (bxD H a b c e, []) ∧ wq a b c e := by
  obtain ⟨y0, y1, n, hx, hl, h0, h1⟩ := trod_struct2 Try.underlying36 h
  have hl4 : cs.length = 4 := hl.trans Try.cells36
  match cs, hl4 with
  | [c0, c1, c2, c3], _ =>
    simp only [Try.cells34, List.drop_zero, List.take_succ_cons, List.take_zero, List.drop_succ_cons] at h0 h1
    obtain ⟨ox, oy, e0, rfl, w0, w1⟩ := trod_pt h0
    obtain ⟨ax, ay, e1, rfl, w2, w3⟩ := trod_pt h1
    simp only [List.cons.injEq, and_true] at e0 e1
    obtain ⟨rfl, rfl⟩ := e0
    obtain ⟨rfl, rfl⟩ := e1
    exact ⟨ox, oy, ax, ay, rfl, by simpa using hx, ⟨w0, w1⟩, w2, w3⟩
set_option maxRecDepth 100000 in
theorem mk_box (k : Nat) {a b c e : Int} (h : wq a b c e) : DataW.trod enc Try.prog w base spare held (k + 3) 36 [.int .i32 a, .int .i32 b, .int .i32 c, .int .i32 e] = some (bxD H a b c e, []) := by
  have ts := trod_struct2_mk (enc := enc) (w := w) (base := base) (spare := spare) (held := held) (n := k + 2) (cs := [.int .i32 a, .int .i32 b, .int .i32 c, .int .i32 e])
    (y0 := (ptD H a b, [])) (y1 := (ptD H c e, [])) Try.underlying36 (by simp [Try.cells36])
    (by simpa [Try.cells34] using mk_pt k a b h.1.1 h.1.2) (by simpa [Try.cells34] using mk_pt k c e h.2.1 h.2.2)
  simpa using ts
set_option maxRecDepth 100000 in
theorem open_box {r : Reach} {b0 : Nat} {v : Value} {d : DataW H} {p : List MemPlace} (hv : Value.okWide Try.prog w r b0 36 v) (h : DataW.Trod enc Try.prog w base spare held 36 v d p) :
    ∃ a b c e, v = bx a b c e ∧ d = bxD H a b c e ∧ p = [] ∧ wq a b c e := by
  obtain ⟨cs, rfl, hsz⟩ := okWide_struct Try.underlying36 hv
  obtain ⟨fuel, hf⟩ := h
  obtain ⟨a, b, c, e, e1, e2, hw⟩ := trod_box hf
  simp only [Prod.mk.injEq] at e2
  refine ⟨a, b, c, e, ?_, e2.1, e2.2, hw⟩
  have : cs.toList = [.int .i32 a, .int .i32 b, .int .i32 c, .int .i32 e] := e1
  show Value.agg cs = _
  rw [← Array.toArray_toList (xs := cs), this]
theorem shut_box {a b c e : Int} (h : wq a b c e) : DataW.Trod enc Try.prog w base spare held 36 (bx a b c e) (bxD H a b c e) [] :=
  ⟨3, by simpa [Value.cells] using mk_box 0 h⟩
/-- A number with its box. -/
abbrev nmD (H : Type) (i a b c d : Int) : DataW H := .agg [.lit (.int .u32 i), bxD H a b c d]
abbrev wn (i a b c d : Int) : Prop := (Lit.int .u32 i).wf = true ∧ wq a b c d
set_option maxRecDepth 100000 in
theorem trod_num {fuel : Nat} {cs : List Value} {z : DataW H × List MemPlace} (h : DataW.trod enc Try.prog w base spare held fuel 47 cs = some z) :
    ∃ i a b c e, cs = [.int .u32 i, .int .i32 a, .int .i32 b, .int .i32 c, .int .i32 e] ∧ z = (nmD H i a b c e, []) ∧ wn i a b c e := by
  obtain ⟨y0, y1, n, hx, hl, h0, h1⟩ := trod_struct2 Try.underlying47 h
  have hl5 : cs.length = 5 := hl.trans Try.cells47
  match cs, hl5 with
  | [c0, c1, c2, c3, c4], _ =>
    simp only [Try.cells32, Try.cells36, List.drop_zero, List.take_succ_cons, List.take_zero, List.drop_succ_cons] at h0 h1
    obtain ⟨i, e0, rfl, w0⟩ := DataW.trod_int Try.underlying32 h0
    obtain ⟨a, b, c, e, e1, rfl, w1⟩ := trod_box h1
    simp only [List.cons.injEq, and_true] at e0 e1
    subst e0
    obtain ⟨rfl, rfl, rfl, rfl⟩ := e1
    exact ⟨i, a, b, c, e, rfl, by simpa using hx, w0, w1⟩
set_option maxRecDepth 100000 in
theorem mk_num (k : Nat) {i a b c e : Int} (h : wn i a b c e) : DataW.trod enc Try.prog w base spare held (k + 4) 47 [.int .u32 i, .int .i32 a, .int .i32 b, .int .i32 c, .int .i32 e] = some (nmD H i a b c e, []) := by
  have ts := trod_struct2_mk (enc := enc) (w := w) (base := base) (spare := spare) (held := held) (n := k + 3) (cs := [.int .u32 i, .int .i32 a, .int .i32 b, .int .i32 c, .int .i32 e])
    (y0 := (.lit (.int .u32 i), [])) (y1 := (bxD H a b c e, [])) Try.underlying47 (by simp [Try.cells47])
    (by simp [Try.cells32, DataW.trod, Try.underlying32, h.1]) (by simpa [Try.cells32, Try.cells36] using mk_box k h.2)
  simpa using ts
/-- A call with its arguments. -/
abbrev stD (H : Type) (kd id a b c d px py qx qy nn : Int) : DataW H := .agg [.lit (.int .i64 kd), .lit (.int .u32 id), bxD H a b c d, ptD H px py, ptD H qx qy, .lit (.int .i64 nn)]
abbrev ws (kd id a b c d px py qx qy nn : Int) : Prop := (Lit.int .i64 kd).wf = true ∧ (Lit.int .u32 id).wf = true ∧ wq a b c d ∧ (wi px ∧ wi py) ∧ (wi qx ∧ wi qy) ∧ (Lit.int .i64 nn).wf = true
set_option maxRecDepth 100000 in
theorem trod_step {fuel : Nat} {cs : List Value} {z : DataW H × List MemPlace} (h : DataW.trod enc Try.prog w base spare held fuel 38 cs = some z) :
    ∃ kd id a b c d px py qx qy nn, cs = stL kd id a b c d px py qx qy nn ∧ z = (stD H kd id a b c d px py qx qy nn, []) ∧ ws kd id a b c d px py qx qy nn := by
  obtain ⟨xs, n, _, hx, hlen, hl, hi⟩ := DataW.trod_struct Try.underlying38 h
  have hl' : xs.length = 6 := hl
  have hc : cs.length = 11 := hlen.trans Try.cells38
  match cs, hc with
  | [c0, c1, c2, c3, c4, c5, c6, c7, c8, c9, c10], _ =>
    match xs, hl' with
    | [y0, y1, y2, y3, y4, y5], _ =>
      have h0 := hi 0 _ rfl
      have h1 := hi 1 _ rfl
      have h2 := hi 2 _ rfl
      have h3 := hi 3 _ rfl
      have h4 := hi 4 _ rfl
      have h5 := hi 5 _ rfl
      simp [Try.cells3, Try.cells32, Try.cells34, Try.cells36] at h0 h1 h2 h3 h4 h5
      obtain ⟨kd, e0, rfl, w0⟩ := DataW.trod_int Try.underlying3 h0
      obtain ⟨id, e1, rfl, w1⟩ := DataW.trod_int Try.underlying32 h1
      obtain ⟨a, b, c, d, e2, rfl, w2⟩ := trod_box h2
      obtain ⟨px, py, e3, rfl, w3, w4⟩ := trod_pt h3
      obtain ⟨qx, qy, e4, rfl, w5, w6⟩ := trod_pt h4
      obtain ⟨nn, e5, rfl, w7⟩ := DataW.trod_int Try.underlying3 h5
      simp only [List.cons.injEq, and_true] at e0 e1 e2 e3 e4 e5
      obtain ⟨rfl, rfl, rfl, rfl⟩ := e2
      obtain ⟨rfl, rfl⟩ := e3
      obtain ⟨rfl, rfl⟩ := e4
      subst e0 e1 e5
      refine ⟨kd, id, a, b, c, d, px, py, qx, qy, nn, rfl, ?_, w0, w1, w2, ⟨w3, w4⟩, ⟨w5, w6⟩, w7⟩
      simpa using hx
set_option maxRecDepth 100000 in
theorem mk_step (k : Nat) {kd id a b c d px py qx qy nn : Int} (h : ws kd id a b c d px py qx qy nn) : DataW.trod enc Try.prog w base spare held (k + 4) 38 (stL kd id a b c d px py qx qy nn) = some (stD H kd id a b c d px py qx qy nn, []) := by
  obtain ⟨w0, w1, w2, w3, w4, w5⟩ := h
  have ts := trod_struct_mk (enc := enc) (w := w) (base := base) (spare := spare) (held := held) (n := k + 3) (cs := stL kd id a b c d px py qx qy nn)
    (xs := [(.lit (.int .i64 kd), []), (.lit (.int .u32 id), []), (bxD H a b c d, []), (ptD H px py, []), (ptD H qx qy, []), (.lit (.int .i64 nn), [])]) Try.underlying38 (by simp [Try.cells38])
    (by
      have mb := mk_box (enc := enc) (w := w) (base := base) (spare := spare) (held := held) (H := H) k w2
      have mp := mk_pt (enc := enc) (w := w) (base := base) (spare := spare) (held := held) (H := H) (k + 1) px py w3.1 w3.2
      have mq := mk_pt (enc := enc) (w := w) (base := base) (spare := spare) (held := held) (H := H) (k + 1) qx qy w4.1 w4.2
      simp [Try.cells3, Try.cells32, Try.cells34, Try.cells36, mb, mp, mq]
      simp [DataW.trod, Try.underlying3, Try.underlying32, w0, w1, w5])
  simpa using ts
set_option maxRecDepth 100000 in
theorem open_step {r : Reach} {b0 : Nat} {v : Value} {d0 : DataW H} {p : List MemPlace} (hv : Value.okWide Try.prog w r b0 38 v) (h : DataW.Trod enc Try.prog w base spare held 38 v d0 p) :
    ∃ kd id a b c d px py qx qy nn, v = stV kd id a b c d px py qx qy nn ∧ d0 = stD H kd id a b c d px py qx qy nn ∧ p = [] ∧ ws kd id a b c d px py qx qy nn := by
  obtain ⟨cs, rfl, hsz⟩ := okWide_struct Try.underlying38 hv
  obtain ⟨fuel, hf⟩ := h
  obtain ⟨kd, id, a, b, c, d, px, py, qx, qy, nn, e1, e2, hw⟩ := trod_step hf
  simp only [Prod.mk.injEq] at e2
  refine ⟨kd, id, a, b, c, d, px, py, qx, qy, nn, ?_, e2.1, e2.2, hw⟩
  have : cs.toList = stL kd id a b c d px py qx qy nn := e1
  show Value.agg cs = _
  rw [← Array.toArray_toList (xs := cs), this]
theorem shut_step {kd id a b c d px py qx qy nn : Int} (h : ws kd id a b c d px py qx qy nn) : DataW.Trod enc Try.prog w base spare held 38 (stV kd id a b c d px py qx qy nn) (stD H kd id a b c d px py qx qy nn) [] :=
  ⟨4, by simpa [Value.cells] using mk_step 0 h⟩
end
end Go.Proofs.Ytpikhdfndnpidaa
