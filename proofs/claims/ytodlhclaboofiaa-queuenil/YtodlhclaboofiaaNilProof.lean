/- QueueNil, proved: for every call with its arguments the law returns true: a nil Ring and a zero one answer ErrNil, zero and false, and All of them tells nothing; the argument reads afterwards as it read before. No conditions. -/
import Derived.Test.YtodlhclaboofiaaEm
import Derived.ProofKit
import Derived.OpenShut
import Derived.Lib.SmallJoins
namespace Go.Proofs.Ytodlhclaboofiaa
open Go.ChangeShapes Go.WideShapes Go.ChangeAt Go.RowKit Go.Joins

theorem nown : ownKnob Try.prog.godebug = none := by kernel_rfl
theorem Try.cells3 : Try.prog.cellsOf 3 = 1 := by kernel_rfl
theorem Try.cells34 : Try.prog.cellsOf 34 = 4 := by kernel_rfl
section
variable {H : Type} {enc : TypeId × Value → H} {w : World} {base : Nat} {spare : Nat → Bool} {held : Bool}
abbrev stD (H : Type) (a b c d : Int) : DataW H := .agg [.lit (.int .i64 a), .lit (.int .i64 b), .lit (.int .i64 c), .lit (.int .i64 d)]
abbrev ws (a b c d : Int) : Prop := ((Lit.int .i64 a).wf = true ∧ (Lit.int .i64 b).wf = true) ∧ (Lit.int .i64 c).wf = true ∧ (Lit.int .i64 d).wf = true
set_option maxRecDepth 100000 in
theorem trod_step {fuel : Nat} {cs : List Value} {z : DataW H × List MemPlace} (h : DataW.trod enc Try.prog w base spare held fuel 34 cs = some z) :
    ∃ a b c d, cs = stL a b c d ∧ z = (stD H a b c d, []) ∧ ws a b c d := by
  obtain ⟨xs, n, _, hx, hlen, hl, hi⟩ := DataW.trod_struct Try.underlying34 h
  have hl' : xs.length = 4 := hl
  have hc : cs.length = 4 := hlen.trans Try.cells34
  match cs, hc with
  | [c0, c1, c2, c3], _ =>
    match xs, hl' with
    | [y0, y1, y2, y3], _ =>
      have h0 := hi 0 _ rfl
      have h1 := hi 1 _ rfl
      have h2 := hi 2 _ rfl
      have h3 := hi 3 _ rfl
      simp [Try.cells3] at h0 h1 h2 h3
      obtain ⟨a, e0, rfl, w0⟩ := DataW.trod_int Try.underlying3 h0
      obtain ⟨b, e1, rfl, w1⟩ := DataW.trod_int Try.underlying3 h1
      obtain ⟨c, e2, rfl, w2⟩ := DataW.trod_int Try.underlying3 h2
      obtain ⟨d, e3, rfl, w3⟩ := DataW.trod_int Try.underlying3 h3
      simp only [List.cons.injEq, and_true] at e0 e1 e2 e3
      subst e0 e1 e2 e3
      refine ⟨a, b, c, d, rfl, ?_, ⟨w0, w1⟩, w2, w3⟩
      simpa using hx
set_option maxRecDepth 100000 in
theorem mk_step (k : Nat) {a b c d : Int} (h : ws a b c d) : DataW.trod enc Try.prog w base spare held (k + 2) 34 (stL a b c d) = some (stD H a b c d, []) := by
  obtain ⟨⟨w0, w1⟩, w2, w3⟩ := h
  have ts := trod_struct_mk (enc := enc) (w := w) (base := base) (spare := spare) (held := held) (n := k + 1) (cs := stL a b c d)
    (xs := [(.lit (.int .i64 a), []), (.lit (.int .i64 b), []), (.lit (.int .i64 c), []), (.lit (.int .i64 d), [])]) Try.underlying34 (by simp [Try.cells34])
    (by simp [Try.cells3, DataW.trod, Try.underlying3, w0, w1, w2, w3])
  simpa using ts
set_option maxRecDepth 100000 in
theorem open_step {r : Reach} {b0 : Nat} {v : Value} {d0 : DataW H} {p : List MemPlace} (hv : Value.okWide Try.prog w r b0 34 v) (h : DataW.Trod enc Try.prog w base spare held 34 v d0 p) :
    ∃ a b c d, v = stV a b c d ∧ d0 = stD H a b c d ∧ p = [] ∧ ws a b c d := by
  obtain ⟨cs, rfl, hsz⟩ := okWide_struct Try.underlying34 hv
  obtain ⟨fuel, hf⟩ := h
  obtain ⟨a, b, c, d, e1, e2, hw⟩ := trod_step hf
  simp only [Prod.mk.injEq] at e2
  refine ⟨a, b, c, d, ?_, e2.1, e2.2, hw⟩
  have : cs.toList = stL a b c d := e1
  show Value.agg cs = _
  rw [← Array.toArray_toList (xs := cs), this]
theorem shut_step {a b c d : Int} (h : ws a b c d) : DataW.Trod enc Try.prog w base spare held 34 (stV a b c d) (stD H a b c d) [] :=
  ⟨2, by simpa [Value.cells] using mk_step 0 h⟩
end
set_option maxRecDepth 100000 in
theorem nil_lifted (os : Os) (started : os.Started) (H : Type) (enc : TypeId × Value → H) :
    ReturnsInHanded {} Try.checked os 4 .any (Rows.queueNilSpec.pre6 enc Try.prog Try.f4 Rows.queueNilRow.domain false) (Rows.queueNilSpec.post enc Try.prog Try.f4 false true false false) := by
  refine returnsInHanded_of_change (C := Try.checked) nown started (by kernel_rfl) Try.func4
    (ChangeSpec.witness6 (enc := enc) (C := Try.checked) false ⟨#[], #[stV 0 0 0 0], []⟩ 8 (by kernel_rfl) (by kernel_rfl) (by kernel_rfl) (by kernel_rfl)) ?_
  intro W base args ds gs before hval0 hW _ _
  have hval : ∀ (j : Nat) t v, Try.f4.params[j]? = some t → args[j]? = some v → Value.okWide Try.prog W .any base t v := hval0
  have hW' := hW
  obtain ⟨p, q, hA0, hV, rfl, _, _⟩ := hW
  have hA : DataW.TrodAll enc Try.prog W 0 (fun _ => true) true Try.f4.params.toList args.toList ds p := hA0
  rw [Try.params4] at hA hval
  obtain ⟨v0, d0, rfl, rfl, h0⟩ := trodAll_one hA
  obtain ⟨rfl, rfl⟩ := trodVars_none hV
  obtain ⟨a, b, c, d, rfl, rfl, rfl, ww⟩ := open_step (hval 0 34 v0 rfl rfl) h0
  clear hA0 hval0
  simp only [List.append_nil] at hW'
  refine (nil_walk a b c d W).mono fun e W' ⟨he, hg⟩ => ?_
  subst he
  exact ⟨_, rfl, _, _, _, [], [], [], hW', trodAll_mk1 (shut_bool Try.underlying4 _), trodAll_mk1 (shut_step ww), rfl,
    hg.frame _, fun h => by cases h⟩

theorem nil_holds : Rows.QueueNilSaid :=
  OpenClaim.holds_of_wide 4 Try.f4 rfl rfl rfl rfl rfl rfl rfl ⟨rfl, rfl, rfl, rfl, rfl⟩ rfl rfl rfl rfl rfl (by kernel_rfl) Try.func4 (by kernel_rfl)
    (of_decide_eq_true (by kernel_rfl)) (by unfold Func.isWrapper; first | (rw [if_pos (by decide +kernel)]; kernel_rfl) | (rw [if_neg (by decide +kernel)]; exact ⟨rfl, rfl⟩))
    (fun os started H enc _ => nil_lifted os started H enc)
end Go.Proofs.Ytodlhclaboofiaa
