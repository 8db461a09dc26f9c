/- CellAll, proved: for whatever is asked and every size the law returns true: a point lies in the square of its cell and in no other cell's, the cells of the box of two points are as many as Count says and have the first point's cell among them, and the cells of the segment between the two points are neighbours, within the box of its ends' cells, the same both ways; the arguments read afterwards as they read before. No conditions. -/
import Derived.Test.YtmoddfikhipagaaAw
import Derived.Test.YtmoddfikhipagaaFrame
namespace Go.Proofs.Ytmoddfikhipagaa
open Go.ChangeShapes Go.WideShapes Go.ChangeAt Go.RowKit Go.Joins

theorem all_walk (px py qx qy a b c e cx cy s : Int) (hpx : in32 px) (hpy : in32 py) (hcx : in32 cx) (hcy : in32 cy) (w : World) :
    Calls Try.prog 6 #[.agg #[.int .i32 px, .int .i32 py, .int .i32 qx, .int .i32 qy, .int .i32 a, .int .i32 b, .int .i32 c, .int .i32 e, .int .i32 cx, .int .i32 cy], .int .i64 s] w fun e w' => e = .returned (.bool true) ∧ Below w.heap.size w w' := by
  by_cases h : (szB s && plB px py && plB qx qy) = true
  · have h' := h
    simp only [Bool.and_eq_true] at h'
    exact all_good px py qx qy a b c e cx cy s hpx hpy hcx hcy h'.1.1 h'.1.2 h'.2 w
  · exact all_bad px py qx qy a b c e cx cy s (szB s) (plB px py) (plB qx qy) (Bool.eq_false_iff.2 h) w (hid0 (fits_any s)) (hid0 (in_any px py)) (hid0 (in_any qx qy))

set_option maxRecDepth 100000 in
theorem all_lifted (os : Os) (started : os.Started) (H : Type) (enc : TypeId × Value → H) :
    ReturnsInHanded {} Try.checked os 6 .any (Rows.cellAllSpec.pre6 enc Try.prog Try.f6 Rows.cellAllRow.domain false) (Rows.cellAllSpec.post enc Try.prog Try.f6 false true false false) := by
  refine returnsInHanded_of_change (C := Try.checked) own started (by kernel_rfl) Try.func6
    (ChangeSpec.witness6 (enc := enc) (C := Try.checked) false ⟨#[], #[.agg #[.int .i32 0, .int .i32 0, .int .i32 0, .int .i32 0, .int .i32 0, .int .i32 0, .int .i32 0, .int .i32 0, .int .i32 0, .int .i32 0], .int .i64 0], []⟩ 8 (by kernel_rfl) (by kernel_rfl) (by kernel_rfl) (by kernel_rfl)) ?_
  intro W base args ds gs before hval0 hW _ _
  have hval : ∀ (j : Nat) t v, Try.f6.params[j]? = some t → args[j]? = some v → Value.okWide Try.prog W .any base t v := hval0
  have hW' := hW
  obtain ⟨p, q, hA0, hV, rfl, _, _⟩ := hW
  have hA : DataW.TrodAll enc Try.prog W 0 (fun _ => true) true Try.f6.params.toList args.toList ds p := hA0
  rw [Try.params6] at hA hval
  obtain ⟨v0, v1, d0, d1, p0, p1, rfl, rfl, rfl, h0, h1⟩ := trodAll_two hA
  obtain ⟨rfl, rfl⟩ := trodVars_none hV
  obtain ⟨px, py, qx, qy, a, b, c, e, cx, cy, rfl, rfl, rfl, wp, wq, ⟨wa, wb⟩, wc⟩ := open_ask (hval 0 28 v0 rfl rfl) h0
  obtain ⟨n, rfl, rfl, rfl, wn⟩ := open_int Try.underlying2 (hval 1 2 v1 rfl rfl) h1
  clear hA0 hval0
  simp only [List.append_nil] at hW'
  refine (all_walk px py qx qy a b c e cx cy n (wf_i32 wp.1) (wf_i32 wp.2) (wf_i32 wc.1) (wf_i32 wc.2) W).mono fun e W' ⟨he, hb⟩ => ?_
  subst he
  exact ⟨_, rfl, _, _, _, [], [], [], hW', trodAll_mk1 (shut_bool Try.underlying4 _), trodAll_mk2 (shut_ask wp wq wa wb wc) (shut_int Try.underlying2 wn), rfl,
    hb.frame _, fun h => by cases h⟩

theorem all_holds : Rows.CellAllSaid :=
  OpenClaim.holds_of_wide 6 Try.f6 rfl rfl rfl rfl rfl rfl rfl ⟨rfl, rfl, rfl, rfl, rfl⟩ rfl rfl rfl rfl rfl (by kernel_rfl) Try.func6 (by kernel_rfl)
    (of_decide_eq_true (by kernel_rfl)) (by unfold Func.isWrapper; first | (rw [if_pos (by decide +kernel)]; kernel_rfl) | (rw [if_neg (by decide +kernel)]; exact ⟨rfl, rfl⟩))
    (fun os started H enc _ => all_lifted os started H enc)
end Go.Proofs.Ytmoddfikhipagaa
