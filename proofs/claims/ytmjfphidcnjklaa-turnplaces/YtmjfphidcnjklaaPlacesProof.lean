/- TurnPlaces, proved: for every four points, on the lattice or not, and every similarity, given by the bits of its parts, the law returns true: what the program finds to bring the first two points to the others is the reference's answer part by part (equal, or no numbers both), with the same error; where the similarity places the first point is the reference's answer, with the same error; the heading of the two points is the reference's part by part; a point is turned by a quarter, and back; the arguments read afterwards as they read before. No conditions. -/
import Derived.Test.YtmjfphidcnjklaaPl5
import Derived.Test.YtmjfphidcnjklaaFrame
namespace Go.Proofs.Ytmjfphidcnjklaa
open Go.ChangeShapes Go.WideShapes Go.ChangeAt Go.RowKit Go.Joins

theorem array8 {α : Type} {cs : Array α} (h : cs.size = 8) : ∃ c0 c1 c2 c3 c4 c5 c6 c7, cs = #[c0, c1, c2, c3, c4, c5, c6, c7] := by
  obtain ⟨l⟩ := cs
  match l, h with
  | [c0, c1, c2, c3, c4, c5, c6, c7], _ => exact ⟨c0, c1, c2, c3, c4, c5, c6, c7, rfl⟩
section
variable {H : Type} {enc : TypeId × Value → H} {w : World} {base : Nat} {spare : Nat → Bool} {held : Bool}
abbrev ptD (H : Type) (x y : Int) : DataW H := .agg [.lit (.int .i32 x), .lit (.int .i32 y)]
abbrev wi (a : Int) : Prop := (Lit.int .i32 a).wf = true
set_option maxRecDepth 100000 in
theorem trod_pt {fuel : Nat} {cs : List Value} {z : DataW H × List MemPlace} (h : DataW.trod enc Try.prog w base spare held fuel 57 cs = some z) :
    ∃ x y, cs = [.int .i32 x, .int .i32 y] ∧ z = (ptD H x y, []) ∧ wi x ∧ wi y := by
  obtain ⟨y0, y1, n, hx, hl, h0, h1⟩ := trod_struct2 Try.underlying57 h
  obtain ⟨c0, c1, rfl⟩ := list2 (hl.trans Try.cells57)
  · simp only [Try.cells21, List.drop_zero, List.take_succ_cons, List.take_zero, List.drop_succ_cons] at h0 h1
    obtain ⟨x, e0, rfl, wx⟩ := DataW.trod_int Try.underlying21 h0
    obtain ⟨y, e1, rfl, wy⟩ := DataW.trod_int Try.underlying21 h1
    simp only [List.cons.injEq, and_true] at e0 e1
    subst e0 e1
    exact ⟨x, y, rfl, by simpa using hx, wx, wy⟩
set_option maxRecDepth 100000 in
theorem mk_pt (x y : Int) (wx : wi x) (wy : wi y) : DataW.trod enc Try.prog w base spare held 2 57 [.int .i32 x, .int .i32 y] = some (ptD H x y, []) := by
  have := trod_struct2_mk (enc := enc) (w := w) (base := base) (spare := spare) (held := held) (n := 1) (cs := [.int .i32 x, .int .i32 y]) (y0 := (.lit (.int .i32 x), [])) (y1 := (.lit (.int .i32 y), [])) Try.underlying57 (by simp [Try.cells57])
    (by simp [Try.cells21, DataW.trod, Try.underlying21, wx]) (by simp [Try.cells21, DataW.trod, Try.underlying21, wy])
  simpa using this
abbrev ptsD (H : Type) (px py qx qy rx ry sx sy : Int) : DataW H := .agg [ptD H px py, ptD H qx qy, ptD H rx ry, ptD H sx sy]
abbrev ptsV (px py qx qy rx ry sx sy : Int) : Value := .agg #[.int .i32 px, .int .i32 py, .int .i32 qx, .int .i32 qy, .int .i32 rx, .int .i32 ry, .int .i32 sx, .int .i32 sy]
abbrev wi2 (x y : Int) : Prop := wi x ∧ wi y
set_option maxRecDepth 100000 in
theorem open_pts {r : Reach} {b0 : Nat} {v : Value} {d : DataW H} {p : List MemPlace} (hv : Value.okWide Try.prog w r b0 59 v) (h : DataW.Trod enc Try.prog w base spare held 59 v d p) :
    ∃ px py qx qy rx ry sx sy, v = ptsV px py qx qy rx ry sx sy ∧ d = ptsD H px py qx qy rx ry sx sy ∧ p = [] ∧ wi2 px py ∧ wi2 qx qy ∧ wi2 rx ry ∧ wi2 sx sy := by
  obtain ⟨cs, rfl, hsz⟩ := okWide_struct Try.underlying59 hv
  obtain ⟨c0, c1, c2, c3, c4, c5, c6, c7, rfl⟩ := array8 (hsz.trans Try.cells59)
  obtain ⟨fuel, hf⟩ := h
  obtain ⟨y0, y1, y2, y3, n, hx, _, h0, h1, h2, h3⟩ := trod_struct4 Try.underlying59 hf
  simp only [Value.cells, Try.cells57, List.drop_zero, List.take_succ_cons, List.take_zero, List.drop_succ_cons] at h0 h1 h2 h3
  obtain ⟨px, py, e0, rfl, w0⟩ := trod_pt h0
  obtain ⟨qx, qy, e1, rfl, w1⟩ := trod_pt h1
  obtain ⟨rx, ry, e2, rfl, w2⟩ := trod_pt h2
  obtain ⟨sx, sy, e3, rfl, w3⟩ := trod_pt h3
  simp only [List.cons.injEq, and_true] at e0 e1 e2 e3
  obtain ⟨rfl, rfl⟩ := e0
  obtain ⟨rfl, rfl⟩ := e1
  obtain ⟨rfl, rfl⟩ := e2
  obtain ⟨rfl, rfl⟩ := e3
  simp only [Prod.mk.injEq, List.append_nil] at hx
  exact ⟨px, py, qx, qy, rx, ry, sx, sy, rfl, hx.1, hx.2, w0, w1, w2, w3⟩
set_option maxRecDepth 100000 in
theorem shut_pts {px py qx qy rx ry sx sy : Int} (h0 : wi2 px py) (h1 : wi2 qx qy) (h2 : wi2 rx ry) (h3 : wi2 sx sy) :
    DataW.Trod enc Try.prog w base spare held 59 (ptsV px py qx qy rx ry sx sy) (ptsD H px py qx qy rx ry sx sy) [] := by
  have ts := trod_struct4_mk (enc := enc) (w := w) (base := base) (spare := spare) (held := held) (n := 2) (cs := [.int .i32 px, .int .i32 py, .int .i32 qx, .int .i32 qy, .int .i32 rx, .int .i32 ry, .int .i32 sx, .int .i32 sy])
    (y0 := (ptD H px py, [])) (y1 := (ptD H qx qy, [])) (y2 := (ptD H rx ry, [])) (y3 := (ptD H sx sy, [])) Try.underlying59 (by simp [Try.cells59])
    (by simpa [Try.cells57] using mk_pt px py h0.1 h0.2) (by simpa [Try.cells57] using mk_pt qx qy h1.1 h1.2) (by simpa [Try.cells57] using mk_pt rx ry h2.1 h2.2) (by simpa [Try.cells57] using mk_pt sx sy h3.1 h3.2)
  exact ⟨_, by simpa [Value.cells] using ts⟩
end

set_option maxRecDepth 100000 in
theorem places_lifted (os : Os) (started : os.Started) (H : Type) (enc : TypeId × Value → H) :
    ReturnsInHanded {} Try.checked os 4 .any (Rows.turnPlacesSpec.pre6 enc Try.prog Try.f4 Rows.turnPlacesRow.domain false) (Rows.turnPlacesSpec.post enc Try.prog Try.f4 false true false false) := by
  refine returnsInHanded_of_change (C := Try.checked) own started (by kernel_rfl) Try.func4
    (ChangeSpec.witness6 (enc := enc) (C := Try.checked) false ⟨#[], #[ptsV 0 0 0 0 0 0 0 0, .agg #[.int .u64 0, .int .u64 0, .int .u64 0, .int .u64 0]], []⟩ 8 (by kernel_rfl) (by kernel_rfl) (by kernel_rfl) (by kernel_rfl)) ?_
  intro W base args ds gs before hval0 hW _ _
  have hval : ∀ (j : Nat) t v, Try.f4.params[j]? = some t → args[j]? = some v → Value.okWide Try.prog W .any base t v := hval0
  have hW' := hW
  obtain ⟨p, q, hA0, hV, rfl, _, _⟩ := hW
  have hA : DataW.TrodAll enc Try.prog W 0 (fun _ => true) true Try.f4.params.toList args.toList ds p := hA0
  rw [Try.params4] at hA hval
  obtain ⟨x0, x1, d0, d1, p0, p1, rfl, rfl, rfl, h0, h1⟩ := trodAll_two hA
  obtain ⟨rfl, rfl⟩ := trodVars_none hV
  obtain ⟨px, py, qx, qy, rx, ry, sx, sy, rfl, rfl, rfl, w0, w1, w2, w3⟩ := open_pts (hval 0 59 x0 rfl rfl) h0
  obtain ⟨a, b, c, d, rfl, rfl, rfl, wa, wb, wc, wd⟩ := open_four (hval 1 24 x1 rfl rfl) h1
  clear hA0 hval0
  simp only [List.append_nil] at hW'
  obtain ⟨la, _⟩ := wf_u64 wa
  obtain ⟨lb, _⟩ := wf_u64 wb
  obtain ⟨lc, _⟩ := wf_u64 wc
  obtain ⟨ld, _⟩ := wf_u64 wd
  have hw := places_walk px py qx qy rx ry sx sy a.toNat b.toNat c.toNat d.toNat (wf_i32 w0.1) (wf_i32 w0.2) (wf_i32 w1.1) (wf_i32 w1.2) (wf_i32 w2.1) (wf_i32 w2.2) (wf_i32 w3.1) (wf_i32 w3.2) (by omega) (by omega) (by omega) (by omega) W
  rw [Int.toNat_of_nonneg la, Int.toNat_of_nonneg lb, Int.toNat_of_nonneg lc, Int.toNat_of_nonneg ld] at hw
  refine hw.mono fun e W' ⟨he, hg⟩ => ?_
  subst he
  exact ⟨_, rfl, _, _, _, [], [], [], hW', trodAll_mk1 (shut_bool Try.underlying4 _), trodAll_mk2 (shut_pts w0 w1 w2 w3) (shut_four wa wb wc wd), rfl,
    hg.below.frame _, fun h => by cases h⟩

theorem places_holds : Rows.TurnPlacesSaid :=
  OpenClaim.holds_of_wide 4 Try.f4 rfl rfl rfl rfl rfl rfl rfl ⟨rfl, rfl, rfl, rfl, rfl⟩ rfl rfl rfl rfl rfl (by kernel_rfl) Try.func4 (by kernel_rfl)
    (of_decide_eq_true (by kernel_rfl)) (by unfold Func.isWrapper; first | (rw [if_pos (by decide +kernel)]; kernel_rfl) | (rw [if_neg (by decide +kernel)]; exact ⟨rfl, rfl⟩))
    (fun os started H enc _ => places_lifted os started H enc)
end Go.Proofs.Ytmjfphidcnjklaa
