/- What the proofs of layer 10's laws share: how points and rows of points are read. -/
import Derived.Test.YtljdnahomhbenaaRows
import Derived.Test.YtljdnahomhbenaaHf
import Derived.ProofKit
import Derived.OpenShut
import Derived.Lib.SmallJoins
import Derived.SizedLaws
import Derived.Deep.SlicePairs
import Derived.Carry
namespace Go.Proofs.Ytljdnahomhbenaa
section
open Go.ChangeShapes Go.WideShapes Go.ChangeAt Go.RowKit Go.Joins

theorem own : ownKnob Try.prog.godebug = none := by kernel_rfl
theorem Try.cells21 : Try.prog.cellsOf 21 = 1 := by kernel_rfl
theorem Try.cells28 : Try.prog.cellsOf 28 = 2 := by kernel_rfl
theorem laidOut : laidOutB Try.prog = true := by kernel_rfl
theorem bytes28 : Try.prog.bytesOf 28 = 8 := by kernel_rfl
theorem wf_i32 {a : Int} (h : (Lit.int .i32 a).wf = true) : in32 a := by
  unfold in32
  simpa [Lit.wf, IntKind.min, IntKind.max, IntKind.signed, IntKind.bits] using h

theorem list2 {α : Type} {l : List α} (h : l.length = 2) : ∃ c0 c1, l = [c0, c1] := by
  match l, h with
  | [c0, c1], _ => exact ⟨c0, c1, rfl⟩
section
variable {H : Type} {enc : TypeId × Value → H} {w : World} {base : Nat} {spare : Nat → Bool} {held : Bool}
abbrev ptD (H : Type) (x y : Int) : DataW H := .agg [.lit (.int .i32 x), .lit (.int .i32 y)]
set_option maxRecDepth 100000 in
theorem trod_pt {fuel : Nat} {cs : List Value} {z : DataW H × List MemPlace} (h : DataW.trod enc Try.prog w base spare held fuel 28 cs = some z) :
    ∃ x y, cs = [.int .i32 x, .int .i32 y] ∧ z = (ptD H x y, []) ∧ (Lit.int .i32 x).wf = true ∧ (Lit.int .i32 y).wf = true := by
  obtain ⟨y0, y1, n, hx, hl, h0, h1⟩ := trod_struct2 Try.underlying28 h
  obtain ⟨c0, c1, rfl⟩ := list2 (hl.trans Try.cells28)
  · simp only [Try.cells21, List.drop_zero, List.take_succ_cons, List.take_zero, List.drop_succ_cons] at h0 h1
    obtain ⟨x, e0, rfl, wx⟩ := DataW.trod_int Try.underlying21 h0
    obtain ⟨y, e1, rfl, wy⟩ := DataW.trod_int Try.underlying21 h1
    simp only [List.cons.injEq, and_true] at e0 e1
    subst e0 e1
    exact ⟨x, y, rfl, by simpa using hx, wx, wy⟩
set_option maxRecDepth 100000 in
theorem mk_pt (x y : Int) (wx : (Lit.int .i32 x).wf = true) (wy : (Lit.int .i32 y).wf = true) : DataW.trod enc Try.prog w base spare held 2 28 [.int .i32 x, .int .i32 y] = some (ptD H x y, []) := by
  have := trod_struct2_mk (enc := enc) (w := w) (base := base) (spare := spare) (held := held) (n := 1) (cs := [.int .i32 x, .int .i32 y]) (y0 := (.lit (.int .i32 x), [])) (y1 := (.lit (.int .i32 y), [])) Try.underlying28 (by simp [Try.cells28])
    (by simp [Try.cells21, DataW.trod, Try.underlying21, wx]) (by simp [Try.cells21, DataW.trod, Try.underlying21, wy])
  simpa using this
set_option maxRecDepth 100000 in
theorem open_pt {r : Reach} {b0 : Nat} {v : Value} {d : DataW H} {p : List MemPlace} (hv : Value.okWide Try.prog w r b0 28 v) (h : DataW.Trod enc Try.prog w base spare held 28 v d p) :
    ∃ x y, v = pt x y ∧ d = ptD H x y ∧ p = [] ∧ (Lit.int .i32 x).wf = true ∧ (Lit.int .i32 y).wf = true := by
  obtain ⟨cs, rfl, hsz⟩ := okWide_struct Try.underlying28 hv
  obtain ⟨c0, c1, rfl⟩ := array2 (hsz.trans Try.cells28)
  obtain ⟨fuel, hf⟩ := h
  obtain ⟨x, y, e, hz, wx, wy⟩ := trod_pt hf
  simp only [Value.cells, List.cons.injEq, and_true] at e
  obtain ⟨rfl, rfl⟩ := e
  simp only [Prod.mk.injEq] at hz
  exact ⟨x, y, rfl, hz.1, hz.2, wx, wy⟩
theorem shut_pt (x y : Int) (wx : (Lit.int .i32 x).wf = true) (wy : (Lit.int .i32 y).wf = true) : DataW.Trod enc Try.prog w base spare held 28 (pt x y) (ptD H x y) [] :=
  ⟨2, by simpa [Value.cells] using mk_pt x y wx wy⟩

set_option maxRecDepth 100000 in
theorem open_row {fuel : Nat} {a0 : Option Addr} {len cap : Nat} {z : DataW H × List MemPlace} (hf : DataW.trod enc Try.prog w base spare held fuel 22 (Value.slice a0 len cap).cells.toList = some z) :
    ∃ l : List (Int × Int), l.length = len ∧ Pts w a0 l ∧ (∀ p ∈ l, in2 p) ∧ (a0 = none → len = 0 ∧ cap = 0) ∧ (len = 0 ∨ ∃ es sp, z.1 = .slice es sp ∧ es.length = len) := by
  rcases Go.Deep.open_slice_pairs Try.underlying22 Try.underlying28 Try.cells28 rfl rfl Try.cells21 Try.cells21 hf with ⟨hcs, hx⟩ | ⟨a, len', cap', m, n, V0, V1, D0, D1, P0, P1, hcs, _, hl, hm, hmm, hx, hc⟩
  · simp [Value.cells] at hcs
    obtain ⟨rfl, rfl, rfl⟩ := hcs
    exact ⟨[], rfl, fun i hi => by simp at hi, (fun p hp => by cases hp), fun _ => ⟨rfl, rfl⟩, Or.inl rfl⟩
  · simp [Value.cells] at hcs
    obtain ⟨rfl, rfl, rfl⟩ := hcs
    have hm' : len ≤ m := by rw [hmm]; split <;> omega
    have hz : len = 0 ∨ ∃ es sp, z.1 = .slice es sp ∧ es.length = len := Or.inr ⟨_, _, by rw [hx], by simp⟩
    have hv : ∀ i, i < len → w.cell? (a.add (i * 2)) = some (.int .i32 (intOf (V0 i))) ∧ w.cell? (a.add (i * 2 + 1)) = some (.int .i32 (intOf (V1 i))) ∧ in2 (intOf (V0 i), intOf (V1 i)) := fun i hi => by
      obtain ⟨c0, c1, t0, t1⟩ := hc i (by omega)
      obtain ⟨x, e0, _, wx⟩ := DataW.trod_int Try.underlying21 t0
      obtain ⟨y, e1, _, wy⟩ := DataW.trod_int Try.underlying21 t1
      simp only [List.cons.injEq, and_true] at e0 e1
      rw [c0, c1, e0, e1]
      exact ⟨rfl, rfl, wf_i32 wx, wf_i32 wy⟩
    by_cases h00 : len = 0
    · subst h00
      exact ⟨[], rfl, fun i hi => absurd hi (by simp), (fun p hp => by cases hp), fun h => absurd h (by simp), hz⟩
    · obtain ⟨b, off, spot⟩ := a
      have hspot : spot = none := by simpa [Addr.add] using World.cell?_spot (hv 0 (by omega)).1
      subst hspot
      refine ⟨(List.range len).map fun i => (intOf (V0 i), intOf (V1 i)), by simp, fun i hi => ?_, fun p hp => ?_, fun h => absurd h (by simp), hz⟩
      · have hi' : i < len := by simpa using hi
        obtain ⟨c0, c1, _⟩ := hv i hi'
        have e : ∀ k, (⟨b, off, none⟩ : Addr).add k = ⟨b, off + k, none⟩ := fun k => by unfold Addr.add; split <;> simp_all
        rw [e] at c0 c1
        refine ⟨b, off, rfl, ?_, ?_⟩
        · rw [c0]; simp [List.getD, hi']
        · rw [Nat.add_assoc, c1]; simp [List.getD, hi']
      · obtain ⟨i, hi, rfl⟩ := List.mem_map.mp hp
        exact (hv i (List.mem_range.mp hi)).2.2
end
end
end Go.Proofs.Ytljdnahomhbenaa
