/- TurnMaps, proved: for every two similarities and every number, given by the bits of their parts, the law returns true: where the program brings a number, what it makes of two similarities one behind the other, and what undoes one, are the reference's answers part by part (equal, or no numbers both), with the same error; two similarities are alike for the program just where they are for the reference; a number's sector is the reference's; a point is turned by a quarter, and back; the arguments read afterwards as they read before. No conditions. -/
import Derived.Test.YtmjfphidcnjklaaM1
import Derived.Test.YtmjfphidcnjklaaFrame
namespace Go.Proofs.Ytmjfphidcnjklaa
open Go.ChangeShapes Go.WideShapes Go.ChangeAt Go.RowKit Go.Joins

set_option maxRecDepth 100000 in
theorem maps_lifted (os : Os) (started : os.Started) (H : Type) (enc : TypeId × Value → H) :
    ReturnsInHanded {} Try.checked os 3 .any (Rows.turnMapsSpec.pre6 enc Try.prog Try.f3 Rows.turnMapsRow.domain false) (Rows.turnMapsSpec.post enc Try.prog Try.f3 false true false false) := by
  refine returnsInHanded_of_change (C := Try.checked) own started (by kernel_rfl) Try.func3
    (ChangeSpec.witness6 (enc := enc) (C := Try.checked) false ⟨#[], #[.agg #[.int .u64 0, .int .u64 0, .int .u64 0, .int .u64 0], .agg #[.int .u64 0, .int .u64 0, .int .u64 0, .int .u64 0], .agg #[.int .u64 0, .int .u64 0]], []⟩ 8 (by kernel_rfl) (by kernel_rfl) (by kernel_rfl) (by kernel_rfl)) ?_
  intro W base args ds gs before hval0 hW _ _
  have hval : ∀ (j : Nat) t v, Try.f3.params[j]? = some t → args[j]? = some v → Value.okWide Try.prog W .any base t v := hval0
  have hW' := hW
  obtain ⟨p, q, hA0, hV, rfl, _, _⟩ := hW
  have hA : DataW.TrodAll enc Try.prog W 0 (fun _ => true) true Try.f3.params.toList args.toList ds p := hA0
  rw [Try.params3] at hA hval
  obtain ⟨x0, x1, x2, d0, d1, d2, p0, p1, p2, rfl, rfl, rfl, h0, h1, h2⟩ := trodAll_three hA
  obtain ⟨rfl, rfl⟩ := trodVars_none hV
  obtain ⟨a, b, c, d, rfl, rfl, rfl, wa, wb, wc, wd⟩ := open_four (hval 0 24 x0 rfl rfl) h0
  obtain ⟨a2, b2, c2, d2, rfl, rfl, rfl, wa2, wb2, wc2, wd2⟩ := open_four (hval 1 24 x1 rfl rfl) h1
  obtain ⟨u, v, rfl, rfl, rfl, wu, wv⟩ := open_two (hval 2 25 x2 rfl rfl) h2
  clear hA0 hval0
  simp only [List.append_nil] at hW'
  obtain ⟨la, _⟩ := wf_u64 wa
  obtain ⟨lb, _⟩ := wf_u64 wb
  obtain ⟨lc, _⟩ := wf_u64 wc
  obtain ⟨ld, _⟩ := wf_u64 wd
  obtain ⟨la2, _⟩ := wf_u64 wa2
  obtain ⟨lb2, _⟩ := wf_u64 wb2
  obtain ⟨lc2, _⟩ := wf_u64 wc2
  obtain ⟨ld2, _⟩ := wf_u64 wd2
  obtain ⟨lu, _⟩ := wf_u64 wu
  obtain ⟨lv, _⟩ := wf_u64 wv
  have hw := maps_walk a.toNat b.toNat c.toNat d.toNat a2.toNat b2.toNat c2.toNat d2.toNat u.toNat v.toNat ⟨by omega, by omega, by omega, by omega⟩ ⟨by omega, by omega, by omega, by omega⟩ (by omega) (by omega) W
  unfold fourV at hw
  rw [Int.toNat_of_nonneg la, Int.toNat_of_nonneg lb, Int.toNat_of_nonneg lc, Int.toNat_of_nonneg ld, Int.toNat_of_nonneg la2, Int.toNat_of_nonneg lb2, Int.toNat_of_nonneg lc2, Int.toNat_of_nonneg ld2, Int.toNat_of_nonneg lu, Int.toNat_of_nonneg lv] at hw
  refine hw.mono fun e W' ⟨he, hg⟩ => ?_
  subst he
  exact ⟨_, rfl, _, _, _, [], [], [], hW', trodAll_mk1 (shut_bool Try.underlying4 _), trodAll_mk3 (shut_four wa wb wc wd) (shut_four wa2 wb2 wc2 wd2) (shut_two wu wv), rfl,
    hg.below.frame _, fun h => by cases h⟩

theorem maps_holds : Rows.TurnMapsSaid :=
  OpenClaim.holds_of_wide 3 Try.f3 rfl rfl rfl rfl rfl rfl rfl ⟨rfl, rfl, rfl, rfl, rfl⟩ rfl rfl rfl rfl rfl (by kernel_rfl) Try.func3 (by kernel_rfl)
    (of_decide_eq_true (by kernel_rfl)) (by unfold Func.isWrapper; first | (rw [if_pos (by decide +kernel)]; kernel_rfl) | (rw [if_neg (by decide +kernel)]; exact ⟨rfl, rfl⟩))
    (fun os started H enc _ => maps_lifted os started H enc)
end Go.Proofs.Ytmjfphidcnjklaa
