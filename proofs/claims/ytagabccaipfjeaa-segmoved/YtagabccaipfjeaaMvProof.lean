/- SegMoved, proved: for every two segments, every mirroring, number of quarters and way and every radius the law returns true: mirrored, turned by quarters and moved on the lattice, how two segments meet, the foot and what is near are the same; the arguments read afterwards as they read before. No conditions. -/
import Derived.Test.YtagabccaipfjeaaMvW
import Derived.Test.YtagabccaipfjeaaFrame
namespace Go.Proofs.Ytagabccaipfjeaa
open Go.ChangeShapes Go.WideShapes Go.ChangeAt Go.RowKit Go.Joins

theorem Try.cells43 : Try.prog.cellsOf 43 = 4 := by kernel_rfl
theorem Try.cells4 : Try.prog.cellsOf 4 = 1 := by kernel_rfl
theorem Try.cells3 : Try.prog.cellsOf 3 = 1 := by kernel_rfl
theorem Try.cells2 : Try.prog.cellsOf 2 = 1 := by kernel_rfl
section
variable {H : Type} {enc : TypeId × Value → H} {w : World} {base : Nat} {spare : Nat → Bool} {held : Bool}
theorem array4 {α : Type} {cs : Array α} (h : cs.size = 4) : ∃ c0 c1 c2 c3, cs = #[c0, c1, c2, c3] := by
  obtain ⟨l⟩ := cs
  match l, h with
  | [c0, c1, c2, c3], _ => exact ⟨c0, c1, c2, c3, rfl⟩
abbrev mvD (H : Type) (m : Bool) (q x y : Int) : DataW H := .agg [.lit (.bool m), .lit (.int .i64 q), .lit (.int .i64 x), .lit (.int .i64 y)]
set_option maxRecDepth 100000 in
theorem open_mv {r : Reach} {b0 : Nat} {v : Value} {d : DataW H} {p : List MemPlace} (hv : Value.okWide Try.prog w r b0 43 v) (h : DataW.Trod enc Try.prog w base spare held 43 v d p) :
    ∃ m q x y, v = .agg #[.bool m, .int .i64 q, .int .i64 x, .int .i64 y] ∧ d = mvD H m q x y ∧ p = [] ∧ (Lit.int .i64 q).wf = true ∧ (Lit.int .i64 x).wf = true ∧ (Lit.int .i64 y).wf = true := by
  obtain ⟨cs, rfl, hsz⟩ := okWide_struct Try.underlying43 hv
  obtain ⟨c0, c1, c2, c3, rfl⟩ := array4 (hsz.trans Try.cells43)
  obtain ⟨fuel, hf⟩ := h
  obtain ⟨y0, y1, y2, y3, n, hx, _, h0, h1, h2, h3⟩ := trod_struct4 Try.underlying43 hf
  simp only [Value.cells, Try.cells2, Try.cells3, Try.cells4, List.drop_zero, List.take_succ_cons, List.take_zero, List.drop_succ_cons] at h0 h1 h2 h3
  obtain ⟨m, e0, rfl⟩ := DataW.trod_bool Try.underlying4 h0
  obtain ⟨q, e1, rfl, w1⟩ := DataW.trod_int Try.underlying3 h1
  obtain ⟨x, e2, rfl, w2⟩ := DataW.trod_int Try.underlying2 h2
  obtain ⟨y, e3, rfl, w3⟩ := DataW.trod_int Try.underlying2 h3
  simp only [List.cons.injEq, and_true] at e0 e1 e2 e3
  subst e0 e1 e2 e3
  simp only [Prod.mk.injEq, List.append_nil] at hx
  exact ⟨m, q, x, y, rfl, hx.1, hx.2, w1, w2, w3⟩
set_option maxRecDepth 100000 in
theorem shut_mv {m : Bool} {q x y : Int} (w1 : (Lit.int .i64 q).wf = true) (w2 : (Lit.int .i64 x).wf = true) (w3 : (Lit.int .i64 y).wf = true) :
    DataW.Trod enc Try.prog w base spare held 43 (.agg #[.bool m, .int .i64 q, .int .i64 x, .int .i64 y]) (mvD H m q x y) [] := by
  have ts := trod_struct4_mk (enc := enc) (w := w) (base := base) (spare := spare) (held := held) (n := 1) (cs := [.bool m, .int .i64 q, .int .i64 x, .int .i64 y])
    (y0 := (.lit (.bool m), [])) (y1 := (.lit (.int .i64 q), [])) (y2 := (.lit (.int .i64 x), [])) (y3 := (.lit (.int .i64 y), [])) Try.underlying43 (by simp [Try.cells43])
    (by simp [Try.cells4, DataW.trod, Try.underlying4]) (by simp [Try.cells3, DataW.trod, Try.underlying3, w1]) (by simp [Try.cells2, DataW.trod, Try.underlying2, w2]) (by simp [Try.cells2, DataW.trod, Try.underlying2, w3])
  exact ⟨_, by simpa [Value.cells] using ts⟩
end
set_option maxRecDepth 100000 in
theorem moved_lifted (os : Os) (started : os.Started) (H : Type) (enc : TypeId × Value → H) :
    ReturnsInHanded {} Try.checked os 6 .any (Rows.segMovedSpec.pre6 enc Try.prog Try.f6 Rows.segMovedRow.domain false) (Rows.segMovedSpec.post enc Try.prog Try.f6 false true false false) := by
  refine returnsInHanded_of_change (C := Try.checked) own started (by kernel_rfl) Try.func6
    (ChangeSpec.witness6 (enc := enc) (C := Try.checked) false ⟨#[], #[.agg #[.int .i32 0, .int .i32 0, .int .i32 0, .int .i32 0, .int .i32 0, .int .i32 0, .int .i32 0, .int .i32 0], .agg #[.bool false, .int .i64 0, .int .i64 0, .int .i64 0], .int .i64 0], []⟩ 8 (by kernel_rfl) (by kernel_rfl) (by kernel_rfl) (by kernel_rfl)) ?_
  intro W base args ds gs before hval0 hW _ _
  have hval : ∀ (j : Nat) t v, Try.f6.params[j]? = some t → args[j]? = some v → Value.okWide Try.prog W .any base t v := hval0
  have hW' := hW
  obtain ⟨p, q, hA0, hV, rfl, _, _⟩ := hW
  have hA : DataW.TrodAll enc Try.prog W 0 (fun _ => true) true Try.f6.params.toList args.toList ds p := hA0
  rw [Try.params6] at hA hval
  obtain ⟨v0, v1, v2, d0, d1, d2, p0, p1, p2, rfl, rfl, rfl, h0, h1, h2⟩ := trodAll_three hA
  obtain ⟨rfl, rfl⟩ := trodVars_none hV
  obtain ⟨ox, oy, ax, ay, bx, by_, px, py, rfl, rfl, rfl, w0, w1, w2, w3⟩ := open_four (hval 0 25 v0 rfl rfl) h0
  obtain ⟨m, qq, x, y, rfl, rfl, rfl, wq, wx, wy⟩ := open_mv (hval 1 43 v1 rfl rfl) h1
  obtain ⟨r, rfl, rfl, rfl, wr⟩ := open_int Try.underlying2 (hval 2 2 v2 rfl rfl) h2
  clear hA0 hval0
  simp only [List.append_nil] at hW'
  refine (moved_walk ox oy ax ay bx by_ px py m qq x y r (wf_i32 w0.1) (wf_i32 w0.2) (wf_i32 w1.1) (wf_i32 w1.2) (wf_i32 w2.1) (wf_i32 w2.2) (wf_i32 w3.1) (wf_i32 w3.2) W).mono fun e W' ⟨he, hg⟩ => ?_
  subst he
  exact ⟨_, rfl, _, _, _, [], [], [], hW', trodAll_mk1 (shut_bool Try.underlying4 _), trodAll_mk3 (shut_four w0 w1 w2 w3) (shut_mv wq wx wy) (shut_int Try.underlying2 wr), rfl,
    hg.below.frame _, fun h => by cases h⟩

theorem moved_holds : Rows.SegMovedSaid :=
  OpenClaim.holds_of_wide 6 Try.f6 rfl rfl rfl rfl rfl rfl rfl ⟨rfl, rfl, rfl, rfl, rfl⟩ rfl rfl rfl rfl rfl (by kernel_rfl) Try.func6 (by kernel_rfl)
    (of_decide_eq_true (by kernel_rfl)) (by unfold Func.isWrapper; first | (rw [if_pos (by decide +kernel)]; kernel_rfl) | (rw [if_neg (by decide +kernel)]; exact ⟨rfl, rfl⟩))
    (fun os started H enc _ => moved_lifted os started H enc)
end Go.Proofs.Ytagabccaipfjeaa
