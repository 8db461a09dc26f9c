/- The law TurnQuarters, walked where its numbers are out of bounds; and as a whole. -/
import Derived.Test.YtmjfphidcnjklaaQw
set_option linter.unusedSimpArgs false
namespace Go.Proofs.Ytmjfphidcnjklaa
open Go.RowKit Go.Sort Ieee

abbrev quV (K bx by_ px py far : Int) (up : Bool) : Value := .agg #[.int .i64 K, .int .i32 bx, .int .i32 by_, .int .i32 px, .int .i32 py, .int .i32 far, .bool up]
set_option maxRecDepth 20000 in
set_option maxHeartbeats 3200000 in
theorem quarters_out (K bx by_ px py far : Int) (up : Bool) (w : World)
    (h : decide (1073741824 < bx) = true ∨ (decide (1073741824 < bx) = false ∧ decide (bx < -1073741824) = true) ∨ (decide (1073741824 < bx) = false ∧ decide (bx < -1073741824) = false ∧ decide (1073741824 < by_) = true)
      ∨ (decide (1073741824 < bx) = false ∧ decide (bx < -1073741824) = false ∧ decide (1073741824 < by_) = false ∧ decide (by_ < -1073741824) = true)
      ∨ (decide (1073741824 < bx) = false ∧ decide (bx < -1073741824) = false ∧ decide (1073741824 < by_) = false ∧ decide (by_ < -1073741824) = false ∧ decide (1073741823 < px) = true)
      ∨ (decide (1073741824 < bx) = false ∧ decide (bx < -1073741824) = false ∧ decide (1073741824 < by_) = false ∧ decide (by_ < -1073741824) = false ∧ decide (1073741823 < px) = false ∧ decide (px < -1073741823) = true)
      ∨ (decide (1073741824 < bx) = false ∧ decide (bx < -1073741824) = false ∧ decide (1073741824 < by_) = false ∧ decide (by_ < -1073741824) = false ∧ decide (1073741823 < px) = false ∧ decide (px < -1073741823) = false ∧ decide (1073741823 < py) = true)
      ∨ (decide (1073741824 < bx) = false ∧ decide (bx < -1073741824) = false ∧ decide (1073741824 < by_) = false ∧ decide (by_ < -1073741824) = false ∧ decide (1073741823 < px) = false ∧ decide (px < -1073741823) = false ∧ decide (1073741823 < py) = false ∧ decide (py < -1073741823) = true)) :
    Calls Try.prog 7 #[quV K bx by_ px py far up] w fun e w' => e = .returned (.bool true) ∧ Gr w w' := by
  have si := run_store_i
  rcases h with h1 | ⟨h1, h2⟩ | ⟨h1, h2, h3⟩ | ⟨h1, h2, h3, h4⟩ | ⟨h1, h2, h3, h4, h5⟩ | ⟨h1, h2, h3, h4, h5, h6⟩ | ⟨h1, h2, h3, h4, h5, h6, h7⟩ | ⟨h1, h2, h3, h4, h5, h6, h7, h8⟩
  all_goals
    go_enter Try.func7, Try.ntmps7
    go_wp2_with (go_at_call 26; refine (lives_any _).mono ?_; rintro e w8 ⟨rfl, g8⟩)
    go_ret
    exact ⟨rfl, (((Gr.refl _).alloc _).alloc _).trans g8⟩
theorem quarters_walk (K bx by_ px py far : Int) (up : Bool) (hfar : in32 far) (w : World) :
    Calls Try.prog 7 #[quV K bx by_ px py far up] w fun e w' => e = .returned (.bool true) ∧ Gr w w' := by
  by_cases h : bx.natAbs ≤ 1073741824 ∧ by_.natAbs ≤ 1073741824 ∧ px.natAbs ≤ 1073741823 ∧ py.natAbs ≤ 1073741823
  · cases up with
    | true => exact quarters_up K bx by_ px py far h.1 h.2.1 h.2.2.1 h.2.2.2 hfar w
    | false => exact quarters_side K bx by_ px py far h.1 h.2.1 h.2.2.1 h.2.2.2 hfar w
  · refine quarters_out K bx by_ px py far up w ?_
    simp only [decide_eq_true_eq, decide_eq_false_iff_not]
    omega
end Go.Proofs.Ytmjfphidcnjklaa
