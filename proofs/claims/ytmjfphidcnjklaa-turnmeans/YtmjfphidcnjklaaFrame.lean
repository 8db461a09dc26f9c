/- What the proofs of layer 8's laws share: how their arguments are read. -/
import Derived.Test.YtmjfphidcnjklaaRows
import Derived.Test.YtmjfphidcnjklaaG2
import Derived.ProofKit
import Derived.OpenShut
import Derived.Lib.SmallJoins
namespace Go.Proofs.Ytmjfphidcnjklaa
open Go.ChangeShapes Go.WideShapes Go.ChangeAt Go.RowKit Go.Joins

theorem own : ownKnob Try.prog.godebug = none := by kernel_rfl
theorem Try.cells21 : Try.prog.cellsOf 21 = 1 := by kernel_rfl
theorem Try.cells22 : Try.prog.cellsOf 22 = 1 := by kernel_rfl
theorem Try.cells24 : Try.prog.cellsOf 24 = 4 := by kernel_rfl
theorem Try.cells25 : Try.prog.cellsOf 25 = 2 := by kernel_rfl
theorem Try.cells57 : Try.prog.cellsOf 57 = 2 := by kernel_rfl
theorem Try.cells59 : Try.prog.cellsOf 59 = 8 := by kernel_rfl
theorem wf_i32 {a : Int} (h : (Lit.int .i32 a).wf = true) : in32 a := by
  unfold in32
  simpa [Lit.wf, IntKind.min, IntKind.max, IntKind.signed, IntKind.bits] using h
theorem wf_u64 {a : Int} (h : (Lit.int .u64 a).wf = true) : 0 ≤ a ∧ a ≤ 18446744073709551615 := by
  simpa [Lit.wf, IntKind.min, IntKind.max, IntKind.signed, IntKind.bits] using h
theorem okWide_array {P : Program} {w : World} {r : Reach} {base : Nat} {t : TypeId} {v : Value} {n : Nat} {e : TypeId} (ht : P.underlying t = some (.array n e)) (h : Value.okWide P w r base t v) : ∃ cs, v = .agg cs ∧ cs.size = P.cellsOf t := by
  simp only [Value.okWide, ht] at h
  obtain ⟨cs, h1, h2, _⟩ := h
  exact ⟨cs, h1, h2⟩
theorem list2 {α : Type} {l : List α} (h : l.length = 2) : ∃ c0 c1, l = [c0, c1] := by
  match l, h with
  | [c0, c1], _ => exact ⟨c0, c1, rfl⟩
section
variable {H : Type} {enc : TypeId × Value → H} {w : World} {base : Nat} {spare : Nat → Bool} {held : Bool}
/-! ### Four words, two words -/
abbrev fourD (H : Type) (a b c d : Int) : DataW H := .agg [.lit (.int .u64 a), .lit (.int .u64 b), .lit (.int .u64 c), .lit (.int .u64 d)]
abbrev wu (a : Int) : Prop := (Lit.int .u64 a).wf = true
set_option maxRecDepth 100000 in
theorem open_four {r : Reach} {b0 : Nat} {v : Value} {d : DataW H} {p : List MemPlace} (hv : Value.okWide Try.prog w r b0 24 v) (h : DataW.Trod enc Try.prog w base spare held 24 v d p) :
    ∃ a b c e, v = .agg #[.int .u64 a, .int .u64 b, .int .u64 c, .int .u64 e] ∧ d = fourD H a b c e ∧ p = [] ∧ wu a ∧ wu b ∧ wu c ∧ wu e := by
  obtain ⟨cs, rfl, hsz⟩ := okWide_struct Try.underlying24 hv
  obtain ⟨c0, c1, c2, c3, rfl⟩ := array4 (hsz.trans Try.cells24)
  obtain ⟨fuel, hf⟩ := h
  obtain ⟨y0, y1, y2, y3, n, hx, _, h0, h1, h2, h3⟩ := trod_struct4 Try.underlying24 hf
  simp only [Value.cells, Try.cells22, List.drop_zero, List.take_succ_cons, List.take_zero, List.drop_succ_cons] at h0 h1 h2 h3
  obtain ⟨a, e0, rfl, w0⟩ := DataW.trod_int Try.underlying22 h0
  obtain ⟨b, e1, rfl, w1⟩ := DataW.trod_int Try.underlying22 h1
  obtain ⟨c, e2, rfl, w2⟩ := DataW.trod_int Try.underlying22 h2
  obtain ⟨e, e3, rfl, w3⟩ := DataW.trod_int Try.underlying22 h3
  simp only [List.cons.injEq, and_true] at e0 e1 e2 e3
  subst e0 e1 e2 e3
  simp only [Prod.mk.injEq, List.append_nil] at hx
  exact ⟨a, b, c, e, rfl, hx.1, hx.2, w0, w1, w2, w3⟩
set_option maxRecDepth 100000 in
theorem shut_four {a b c d : Int} (h0 : wu a) (h1 : wu b) (h2 : wu c) (h3 : wu d) :
    DataW.Trod enc Try.prog w base spare held 24 (.agg #[.int .u64 a, .int .u64 b, .int .u64 c, .int .u64 d]) (fourD H a b c d) [] := by
  have ts := trod_struct4_mk (enc := enc) (w := w) (base := base) (spare := spare) (held := held) (n := 1) (cs := [.int .u64 a, .int .u64 b, .int .u64 c, .int .u64 d])
    (y0 := (.lit (.int .u64 a), [])) (y1 := (.lit (.int .u64 b), [])) (y2 := (.lit (.int .u64 c), [])) (y3 := (.lit (.int .u64 d), [])) Try.underlying24 (by simp [Try.cells24])
    (by simp [Try.cells22, DataW.trod, Try.underlying22, h0]) (by simp [Try.cells22, DataW.trod, Try.underlying22, h1]) (by simp [Try.cells22, DataW.trod, Try.underlying22, h2]) (by simp [Try.cells22, DataW.trod, Try.underlying22, h3])
  exact ⟨_, by simpa [Value.cells] using ts⟩
abbrev twoD (H : Type) (a b : Int) : DataW H := .agg [.lit (.int .u64 a), .lit (.int .u64 b)]
set_option maxRecDepth 100000 in
theorem open_two {r : Reach} {b0 : Nat} {v : Value} {d : DataW H} {p : List MemPlace} (hv : Value.okWide Try.prog w r b0 25 v) (h : DataW.Trod enc Try.prog w base spare held 25 v d p) :
    ∃ a b, v = .agg #[.int .u64 a, .int .u64 b] ∧ d = twoD H a b ∧ p = [] ∧ wu a ∧ wu b := by
  obtain ⟨cs, rfl, hsz⟩ := okWide_array Try.underlying25 hv
  obtain ⟨c0, c1, rfl⟩ := array2 (hsz.trans Try.cells25)
  obtain ⟨fuel, hf⟩ := h
  obtain ⟨xs, m, _, hx, _, hl, hi⟩ := DataW.trod_array Try.underlying25 hf
  obtain ⟨y0, y1, rfl⟩ := list2 hl
  have h0 := hi 0 (by decide)
  have h1 := hi 1 (by decide)
  simp [Value.cells, Try.cells22] at h0 h1
  obtain ⟨a, e0, rfl, w0⟩ := DataW.trod_int Try.underlying22 h0
  obtain ⟨b, e1, rfl, w1⟩ := DataW.trod_int Try.underlying22 h1
  simp only [List.cons.injEq, and_true] at e0 e1
  subst e0 e1
  simp at hx
  exact ⟨a, b, rfl, hx.1, hx.2, w0, w1⟩
set_option maxRecDepth 100000 in
theorem shut_two {a b : Int} (h0 : wu a) (h1 : wu b) :
    DataW.Trod enc Try.prog w base spare held 25 (.agg #[.int .u64 a, .int .u64 b]) (twoD H a b) [] := by
  refine ⟨2, ?_⟩
  have r2 : List.range 2 = [0, 1] := rfl
  simp [DataW.trod, Try.underlying25, Try.cells25, Value.cells, r2, Try.cells22, Try.underlying22, h0, h1]
end
end Go.Proofs.Ytmjfphidcnjklaa
