/- PointTurns, proved: for every four points and every shift the law returns true: a turn is the same told from another of its points on, the other way round backwards, none where two of the points are alike, and the same for shifted points; a point is on a segment just if there is no turn and the box around the ends has it; on the lattice the cross product has the turn's sign, and a square of a distance is at least 0, and 0 for the same point alone; the arguments read afterwards as they read before. No conditions. -/
import Derived.Test.YtclhkcpccocajaaTurnsW
import Derived.Test.YtclhkcpccocajaaFrame
namespace Go.Proofs.Ytclhkcpccocajaa
open Go.ChangeShapes Go.WideShapes Go.ChangeAt Go.RowKit Go.Joins

set_option maxRecDepth 100000 in
theorem turns_lifted (os : Os) (started : os.Started) (H : Type) (enc : TypeId × Value → H) :
    ReturnsInHanded {} Try.checked os 6 .any (Rows.pointTurnsSpec.pre6 enc Try.prog Try.f6 Rows.pointTurnsRow.domain false) (Rows.pointTurnsSpec.post enc Try.prog Try.f6 false true false false) := by
  refine returnsInHanded_of_change (C := Try.checked) own started (by kernel_rfl) Try.func6
    (ChangeSpec.witness6 (enc := enc) (C := Try.checked) false ⟨#[], #[.agg #[.int .i32 0, .int .i32 0, .int .i32 0, .int .i32 0, .int .i32 0, .int .i32 0, .int .i32 0, .int .i32 0], .agg #[.int .i32 0, .int .i32 0]], []⟩ 8 (by kernel_rfl) (by kernel_rfl) (by kernel_rfl) (by kernel_rfl)) ?_
  intro W base args ds gs before hval0 hW _ _
  have hval : ∀ (j : Nat) t v, Try.f6.params[j]? = some t → args[j]? = some v → Value.okWide Try.prog W .any base t v := hval0
  have hW' := hW
  obtain ⟨p, q, hA0, hV, rfl, _, _⟩ := hW
  have hA : DataW.TrodAll enc Try.prog W 0 (fun _ => true) true Try.f6.params.toList args.toList ds p := hA0
  rw [Try.params6] at hA hval
  obtain ⟨v0, v1, d0, d1, p0, p1, rfl, rfl, rfl, h0, h1⟩ := trodAll_two hA
  obtain ⟨rfl, rfl⟩ := trodVars_none hV
  obtain ⟨ox, oy, ax, ay, bx, by_, px, py, rfl, rfl, rfl, w0, w1, w2, w3⟩ := open_four (hval 0 25 v0 rfl rfl) h0
  obtain ⟨u, v, rfl, rfl, rfl, wu, wv⟩ := open_pt (hval 1 23 v1 rfl rfl) h1
  clear hA0 hval0
  simp only [List.append_nil] at hW'
  refine (turns_walk ox oy ax ay bx by_ px py u v (wf_i32 w0.1) (wf_i32 w0.2) (wf_i32 w1.1) (wf_i32 w1.2) (wf_i32 w2.1) (wf_i32 w2.2) (wf_i32 w3.1) (wf_i32 w3.2) (wf_i32 wu) (wf_i32 wv) W).mono fun e W' ⟨he, hg⟩ => ?_
  subst he
  exact ⟨_, rfl, _, _, _, [], [], [], hW', trodAll_mk1 (shut_bool Try.underlying4 _), trodAll_mk2 (shut_four w0 w1 w2 w3) (shut_pt u v wu wv), rfl,
    hg.below.frame _, fun h => by cases h⟩

theorem turns_holds : Rows.PointTurnsSaid :=
  OpenClaim.holds_of_wide 6 Try.f6 rfl rfl rfl rfl rfl rfl rfl ⟨rfl, rfl, rfl, rfl, rfl⟩ rfl rfl rfl rfl rfl (by kernel_rfl) Try.func6 (by kernel_rfl)
    (of_decide_eq_true (by kernel_rfl)) (by unfold Func.isWrapper; first | (rw [if_pos (by decide +kernel)]; kernel_rfl) | (rw [if_neg (by decide +kernel)]; exact ⟨rfl, rfl⟩))
    (fun os started H enc _ => turns_lifted os started H enc)
end Go.Proofs.Ytclhkcpccocajaa
