/- PointOrder, proved: for every four points the law returns true: the directions of points seen from the first have an order (turned over with its points, none of a point against itself, handed on from one to the next), and a point to the right of the first is never behind another, and alike just with those to the right of it; the argument reads afterwards as it read before. No conditions. -/
import Derived.Test.YtclhkcpccocajaaOrderW
import Derived.Test.YtclhkcpccocajaaFrame
namespace Go.Proofs.Ytclhkcpccocajaa
open Go.ChangeShapes Go.WideShapes Go.ChangeAt Go.RowKit Go.Joins

set_option maxRecDepth 100000 in
theorem order_lifted (os : Os) (started : os.Started) (H : Type) (enc : TypeId × Value → H) :
    ReturnsInHanded {} Try.checked os 7 .any (Rows.pointOrderSpec.pre6 enc Try.prog Try.f7 Rows.pointOrderRow.domain false) (Rows.pointOrderSpec.post enc Try.prog Try.f7 false true false false) := by
  refine returnsInHanded_of_change (C := Try.checked) own started (by kernel_rfl) Try.func7
    (ChangeSpec.witness6 (enc := enc) (C := Try.checked) false ⟨#[], #[.agg #[.int .i32 0, .int .i32 0, .int .i32 0, .int .i32 0, .int .i32 0, .int .i32 0, .int .i32 0, .int .i32 0]], []⟩ 8 (by kernel_rfl) (by kernel_rfl) (by kernel_rfl) (by kernel_rfl)) ?_
  intro W base args ds gs before hval0 hW _ _
  have hval : ∀ (j : Nat) t v, Try.f7.params[j]? = some t → args[j]? = some v → Value.okWide Try.prog W .any base t v := hval0
  have hW' := hW
  obtain ⟨p, q, hA0, hV, rfl, _, _⟩ := hW
  have hA : DataW.TrodAll enc Try.prog W 0 (fun _ => true) true Try.f7.params.toList args.toList ds p := hA0
  rw [Try.params7] at hA hval
  obtain ⟨v0, d0, rfl, rfl, h0⟩ := trodAll_one hA
  obtain ⟨rfl, rfl⟩ := trodVars_none hV
  obtain ⟨ox, oy, ax, ay, bx, by_, px, py, rfl, rfl, rfl, w0, w1, w2, w3⟩ := open_four (hval 0 25 v0 rfl rfl) h0
  clear hA0 hval0
  simp only [List.append_nil] at hW'
  refine (order_walk ox oy ax ay bx by_ px py (wf_i32 w0.1) (wf_i32 w0.2) (wf_i32 w1.1) (wf_i32 w1.2) (wf_i32 w2.1) (wf_i32 w2.2) (wf_i32 w3.1) (wf_i32 w3.2) W).mono fun e W' ⟨he, hg⟩ => ?_
  subst he
  exact ⟨_, rfl, _, _, _, [], [], [], hW', trodAll_mk1 (shut_bool Try.underlying4 _), trodAll_mk1 (shut_four w0 w1 w2 w3), rfl,
    hg.below.frame _, fun h => by cases h⟩

theorem order_holds : Rows.PointOrderSaid :=
  OpenClaim.holds_of_wide 7 Try.f7 rfl rfl rfl rfl rfl rfl rfl ⟨rfl, rfl, rfl, rfl, rfl⟩ rfl rfl rfl rfl rfl (by kernel_rfl) Try.func7 (by kernel_rfl)
    (of_decide_eq_true (by kernel_rfl)) (by unfold Func.isWrapper; first | (rw [if_pos (by decide +kernel)]; kernel_rfl) | (rw [if_neg (by decide +kernel)]; exact ⟨rfl, rfl⟩))
    (fun os started H enc _ => order_lifted os started H enc)
end Go.Proofs.Ytclhkcpccocajaa
