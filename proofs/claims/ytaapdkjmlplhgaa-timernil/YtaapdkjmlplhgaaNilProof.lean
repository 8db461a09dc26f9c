/- TimerNil, proved: for every due the law returns true: nil Dues and zero ones answer ErrNil, zero and false, and All of them tells nothing; the argument reads afterwards as it read before. No conditions. -/
import Derived.Test.YtaapdkjmlplhgaaNl
import Derived.ProofKit
import Derived.OpenShut
import Derived.Lib.SmallJoins
namespace Go.Proofs.Ytaapdkjmlplhgaa
open Go.ChangeShapes Go.WideShapes Go.ChangeAt Go.RowKit Go.Joins

theorem nown : ownKnob Try.prog.godebug = none := by kernel_rfl
theorem Try.cells30 : Try.prog.cellsOf 30 = 1 := by kernel_rfl
theorem Try.cells32 : Try.prog.cellsOf 32 = 3 := by kernel_rfl
section
variable {H : Type} {enc : TypeId × Value → H} {w : World} {base : Nat} {spare : Nat → Bool} {held : Bool}
abbrev duD (H : Type) (x : Du) : DataW H := .agg [.lit (.int .u32 x.1), .lit (.int .u32 x.2.1), .lit (.int .u32 x.2.2)]
abbrev wd (x : Du) : Prop := (Lit.int .u32 x.1).wf = true ∧ (Lit.int .u32 x.2.1).wf = true ∧ (Lit.int .u32 x.2.2).wf = true
set_option maxRecDepth 100000 in
theorem trod_due {fuel : Nat} {cs : List Value} {z : DataW H × List MemPlace} (h : DataW.trod enc Try.prog w base spare held fuel 32 cs = some z) :
    ∃ x : Du, cs = dL x ∧ z = (duD H x, []) ∧ wd x := by
  obtain ⟨xs, n, _, hx, hlen, hl, hi⟩ := DataW.trod_struct Try.underlying32 h
  have hl' : xs.length = 3 := hl
  have hc : cs.length = 3 := hlen.trans Try.cells32
  match cs, hc with
  | [c0, c1, c2], _ =>
    match xs, hl' with
    | [y0, y1, y2], _ =>
      have h0 := hi 0 _ rfl
      have h1 := hi 1 _ rfl
      have h2 := hi 2 _ rfl
      simp [Try.cells30] at h0 h1 h2
      obtain ⟨a, e0, rfl, w0⟩ := DataW.trod_int Try.underlying30 h0
      obtain ⟨b, e1, rfl, w1⟩ := DataW.trod_int Try.underlying30 h1
      obtain ⟨c, e2, rfl, w2⟩ := DataW.trod_int Try.underlying30 h2
      simp only [List.cons.injEq, and_true] at e0 e1 e2
      subst e0 e1 e2
      refine ⟨(a, b, c), rfl, ?_, w0, w1, w2⟩
      simpa using hx
set_option maxRecDepth 100000 in
theorem mk_due (k : Nat) {x : Du} (h : wd x) : DataW.trod enc Try.prog w base spare held (k + 2) 32 (dL x) = some (duD H x, []) := by
  obtain ⟨w0, w1, w2⟩ := h
  have ts := trod_struct_mk (enc := enc) (w := w) (base := base) (spare := spare) (held := held) (n := k + 1) (cs := dL x)
    (xs := [(.lit (.int .u32 x.1), []), (.lit (.int .u32 x.2.1), []), (.lit (.int .u32 x.2.2), [])]) Try.underlying32 (by simp [Try.cells32])
    (by simp [Try.cells30, DataW.trod, Try.underlying30, w0, w1, w2])
  simpa using ts
set_option maxRecDepth 100000 in
theorem open_due {r : Reach} {b0 : Nat} {v : Value} {d0 : DataW H} {p : List MemPlace} (hv : Value.okWide Try.prog w r b0 32 v) (h : DataW.Trod enc Try.prog w base spare held 32 v d0 p) :
    ∃ x : Du, v = dV x ∧ d0 = duD H x ∧ p = [] ∧ wd x := by
  obtain ⟨cs, rfl, hsz⟩ := okWide_struct Try.underlying32 hv
  obtain ⟨fuel, hf⟩ := h
  obtain ⟨x, e1, e2, hw⟩ := trod_due hf
  simp only [Prod.mk.injEq] at e2
  refine ⟨x, ?_, e2.1, e2.2, hw⟩
  have : cs.toList = dL x := e1
  show Value.agg cs = _
  rw [← Array.toArray_toList (xs := cs), this]
theorem shut_due {x : Du} (h : wd x) : DataW.Trod enc Try.prog w base spare held 32 (dV x) (duD H x) [] :=
  ⟨2, by simpa [Value.cells] using mk_due 0 h⟩
end
set_option maxRecDepth 100000 in
theorem nil_lifted (os : Os) (started : os.Started) (H : Type) (enc : TypeId × Value → H) :
    ReturnsInHanded {} Try.checked os 6 .any (Rows.timerNilSpec.pre6 enc Try.prog Try.f6 Rows.timerNilRow.domain false) (Rows.timerNilSpec.post enc Try.prog Try.f6 false true false false) := by
  refine returnsInHanded_of_change (C := Try.checked) nown started (by kernel_rfl) Try.func6
    (ChangeSpec.witness6 (enc := enc) (C := Try.checked) false ⟨#[], #[dV (0, 0, 0)], []⟩ 8 (by kernel_rfl) (by kernel_rfl) (by kernel_rfl) (by kernel_rfl)) ?_
  intro W base args ds gs before hval0 hW _ _
  have hval : ∀ (j : Nat) t v, Try.f6.params[j]? = some t → args[j]? = some v → Value.okWide Try.prog W .any base t v := hval0
  have hW' := hW
  obtain ⟨p, q, hA0, hV, rfl, _, _⟩ := hW
  have hA : DataW.TrodAll enc Try.prog W 0 (fun _ => true) true Try.f6.params.toList args.toList ds p := hA0
  rw [Try.params6] at hA hval
  obtain ⟨v0, d0, rfl, rfl, h0⟩ := trodAll_one hA
  obtain ⟨rfl, rfl⟩ := trodVars_none hV
  obtain ⟨x, rfl, rfl, rfl, ww⟩ := open_due (hval 0 32 v0 rfl rfl) h0
  clear hA0 hval0
  simp only [List.append_nil] at hW'
  refine (nil_walk x W).mono fun e W' ⟨he, hg⟩ => ?_
  subst he
  exact ⟨_, rfl, _, _, _, [], [], [], hW', trodAll_mk1 (shut_bool Try.underlying4 _), trodAll_mk1 (shut_due ww), rfl,
    hg.frame _, fun h => by cases h⟩

theorem nil_holds : Rows.TimerNilSaid :=
  OpenClaim.holds_of_wide 6 Try.f6 rfl rfl rfl rfl rfl rfl rfl ⟨rfl, rfl, rfl, rfl, rfl⟩ rfl rfl rfl rfl rfl (by kernel_rfl) Try.func6 (by kernel_rfl)
    (of_decide_eq_true (by kernel_rfl)) (by unfold Func.isWrapper; first | (rw [if_pos (by decide +kernel)]; kernel_rfl) | (rw [if_neg (by decide +kernel)]; exact ⟨rfl, rfl⟩))
    (fun os started H enc _ => nil_lifted os started H enc)
end Go.Proofs.Ytaapdkjmlplhgaa
