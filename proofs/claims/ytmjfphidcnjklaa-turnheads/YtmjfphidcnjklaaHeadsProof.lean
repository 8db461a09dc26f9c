/- TurnHeads, proved: for every two points and every number, given by the bits of its parts, the law returns true: a number's sector lies from -1 to 7, and turned by a quarter to the left it is two sectors more, or none has one; the heading from a point to itself is 0; from a point to another it lies in the sector of their difference, and its length is 1, nearly (the sum of its parts' squares is at most 2^-48 off 1); a point is turned by a quarter, and back; the arguments read afterwards as they read before. No conditions. -/
import Derived.Test.YtmjfphidcnjklaaHs
import Derived.Test.YtmjfphidcnjklaaFrame
namespace Go.Proofs.Ytmjfphidcnjklaa
open Go.ChangeShapes Go.WideShapes Go.ChangeAt Go.RowKit Go.Joins

theorem arr2 {α : Type} {cs : Array α} (h : cs.size = 2) : ∃ c0 c1, cs = #[c0, c1] := by
  obtain ⟨l⟩ := cs
  match l, h with
  | [c0, c1], _ => exact ⟨c0, c1, rfl⟩
section
variable {H : Type} {enc : TypeId × Value → H} {w : World} {base : Nat} {spare : Nat → Bool} {held : Bool}
abbrev ptE (H : Type) (x y : Int) : DataW H := .agg [.lit (.int .i32 x), .lit (.int .i32 y)]
abbrev we (a : Int) : Prop := (Lit.int .i32 a).wf = true
set_option maxRecDepth 100000 in
theorem open_pt {r : Reach} {b0 : Nat} {v : Value} {d : DataW H} {p : List MemPlace} (hv : Value.okWide Try.prog w r b0 57 v) (h : DataW.Trod enc Try.prog w base spare held 57 v d p) :
    ∃ x y, v = ptV x y ∧ d = ptE H x y ∧ p = [] ∧ we x ∧ we y := by
  obtain ⟨cs, rfl, hsz⟩ := okWide_struct Try.underlying57 hv
  obtain ⟨c0, c1, rfl⟩ := arr2 (hsz.trans Try.cells57)
  obtain ⟨fuel, hf⟩ := h
  obtain ⟨y0, y1, n, hx, _, h0, h1⟩ := trod_struct2 Try.underlying57 hf
  simp only [Value.cells, Try.cells21, List.drop_zero, List.take_succ_cons, List.take_zero, List.drop_succ_cons] at h0 h1
  obtain ⟨x, e0, rfl, wx⟩ := DataW.trod_int Try.underlying21 h0
  obtain ⟨y, e1, rfl, wy⟩ := DataW.trod_int Try.underlying21 h1
  simp only [List.cons.injEq, and_true] at e0 e1
  subst e0 e1
  simp only [Prod.mk.injEq, List.append_nil] at hx
  exact ⟨x, y, rfl, hx.1, hx.2, wx, wy⟩
set_option maxRecDepth 100000 in
theorem shut_pt {x y : Int} (wx : we x) (wy : we y) : DataW.Trod enc Try.prog w base spare held 57 (ptV x y) (ptE H x y) [] := by
  have := trod_struct2_mk (enc := enc) (w := w) (base := base) (spare := spare) (held := held) (n := 1) (cs := [.int .i32 x, .int .i32 y]) (y0 := (.lit (.int .i32 x), [])) (y1 := (.lit (.int .i32 y), [])) Try.underlying57 (by simp [Try.cells57])
    (by simp [Try.cells21, DataW.trod, Try.underlying21, wx]) (by simp [Try.cells21, DataW.trod, Try.underlying21, wy])
  exact ⟨_, by simpa [Value.cells] using this⟩
end
theorem heads_walk (px py qx qy : Int) (h1 : in32 px) (h2 : in32 py) (h3 : in32 qx) (h4 : in32 qy) (a b : Nat) (ha : a < 18446744073709551616) (hb : b < 18446744073709551616) (w : World) :
    Calls Try.prog 8 #[ptV px py, ptV qx qy, .agg #[.int .u64 (a : Int), .int .u64 (b : Int)]] w fun e w' => e = .returned (.bool true) ∧ Gr w w' := by
  by_cases c1 : px = qx
  · by_cases c2 : py = qy
    · subst c1 c2; exact heads_no px py a b ha hb w
    · exact heads_yes px py qx qy h1 h2 h3 h4 (.inl ⟨beq_iff_eq.2 c1, beq_eq_false_iff_ne.2 c2⟩) a b ha hb w
  · exact heads_yes px py qx qy h1 h2 h3 h4 (.inr (beq_eq_false_iff_ne.2 c1)) a b ha hb w

set_option maxRecDepth 100000 in
theorem heads_lifted (os : Os) (started : os.Started) (H : Type) (enc : TypeId × Value → H) :
    ReturnsInHanded {} Try.checked os 8 .any (Rows.turnHeadsSpec.pre6 enc Try.prog Try.f8 Rows.turnHeadsRow.domain false) (Rows.turnHeadsSpec.post enc Try.prog Try.f8 false true false false) := by
  refine returnsInHanded_of_change (C := Try.checked) own started (by kernel_rfl) Try.func8
    (ChangeSpec.witness6 (enc := enc) (C := Try.checked) false ⟨#[], #[ptV 0 0, ptV 0 0, .agg #[.int .u64 0, .int .u64 0]], []⟩ 8 (by kernel_rfl) (by kernel_rfl) (by kernel_rfl) (by kernel_rfl)) ?_
  intro W base args ds gs before hval0 hW _ _
  have hval : ∀ (j : Nat) t v, Try.f8.params[j]? = some t → args[j]? = some v → Value.okWide Try.prog W .any base t v := hval0
  have hW' := hW
  obtain ⟨p, q, hA0, hV, rfl, _, _⟩ := hW
  have hA : DataW.TrodAll enc Try.prog W 0 (fun _ => true) true Try.f8.params.toList args.toList ds p := hA0
  rw [Try.params8] at hA hval
  obtain ⟨x0, x1, x2, d0, d1, d2, p0, p1, p2, rfl, rfl, rfl, h0, h1, h2⟩ := trodAll_three hA
  obtain ⟨rfl, rfl⟩ := trodVars_none hV
  obtain ⟨px, py, rfl, rfl, rfl, wpx, wpy⟩ := open_pt (hval 0 57 x0 rfl rfl) h0
  obtain ⟨qx, qy, rfl, rfl, rfl, wqx, wqy⟩ := open_pt (hval 1 57 x1 rfl rfl) h1
  obtain ⟨u, v, rfl, rfl, rfl, wu, wv⟩ := open_two (hval 2 25 x2 rfl rfl) h2
  clear hA0 hval0
  simp only [List.append_nil] at hW'
  obtain ⟨lu, _⟩ := wf_u64 wu
  obtain ⟨lv, _⟩ := wf_u64 wv
  have hw := heads_walk px py qx qy (wf_i32 wpx) (wf_i32 wpy) (wf_i32 wqx) (wf_i32 wqy) u.toNat v.toNat (by omega) (by omega) W
  rw [Int.toNat_of_nonneg lu, Int.toNat_of_nonneg lv] at hw
  refine hw.mono fun e W' ⟨he, hg⟩ => ?_
  subst he
  exact ⟨_, rfl, _, _, _, [], [], [], hW', trodAll_mk1 (shut_bool Try.underlying4 _), trodAll_mk3 (shut_pt wpx wpy) (shut_pt wqx wqy) (shut_two wu wv), rfl,
    hg.below.frame _, fun h => by cases h⟩

theorem heads_holds : Rows.TurnHeadsSaid :=
  OpenClaim.holds_of_wide 8 Try.f8 rfl rfl rfl rfl rfl rfl rfl ⟨rfl, rfl, rfl, rfl, rfl⟩ rfl rfl rfl rfl rfl (by kernel_rfl) Try.func8 (by kernel_rfl)
    (of_decide_eq_true (by kernel_rfl)) (by unfold Func.isWrapper; first | (rw [if_pos (by decide +kernel)]; kernel_rfl) | (rw [if_neg (by decide +kernel)]; exact ⟨rfl, rfl⟩))
    (fun os started H enc _ => heads_lifted os started H enc)
end Go.Proofs.Ytmjfphidcnjklaa
