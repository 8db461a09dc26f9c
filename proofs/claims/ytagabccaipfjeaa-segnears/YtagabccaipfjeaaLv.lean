/- Contracts of the law's own: at, lives, In, less. -/
import Derived.Test.YtagabccaipfjeaaSg10
namespace Go.Proofs.Ytagabccaipfjeaa
open Go.RowKit Go.Sort

set_option maxHeartbeats 400000 in
theorem at_any (x y : Int) (w : World) : Calls Try.prog 32 #[.int .i32 x, .int .i32 y] w fun e w' => e = .returned (pt x y) ∧ Gr w w' := by
  go_enter Try.func32, Try.ntmps32
  go_wp2
  refine bodyPost_ret (v := pt x y) (by simp [results, Try.results32, go_sem]) rfl ⟨rfl, ?_⟩
  exact (Gr.refl _).alloc _
theorem live1 : meetA (0, 0) (4, 4) (0, 4) (4, 0) = (1, true, (1, 2), (1, 2)) := by kernel_rfl
theorem live2 : nearA (0, 5) (-3, 1) (3, 1) 4 = true := by kernel_rfl
theorem live3 : nearA (0, 5) (-3, 1) (3, 1) 3 = false := by kernel_rfl
set_option maxHeartbeats 1000000 in
theorem lives_any (w : World) : Calls Try.prog 10 #[] w fun e w' => e = .returned (.bool true) ∧ Gr w w' := by
  have M : Hid (∀ w, Calls Try.prog 8 #[pt 0 0, pt 4 4, pt 0 4, pt 4 0] w fun e w' => e = .returned (.agg #[.int .u8 1, .bool true, .int .i64 1, .int .i64 2, .int .i64 1, .int .i64 2]) ∧ Gr w w') := fun w => by
    have h := Meet_any (0, 0) (4, 4) (0, 4) (4, 0) w
    rw [live1] at h; exact h
  have N4 : Hid (∀ w, Calls Try.prog 13 #[pt 0 5, pt (-3) 1, pt 3 1, .int .i64 4] w fun e w' => e = .returned (.bool true) ∧ Gr w w') := fun w => by
    have h := Near_any (0, 5) (-3, 1) (3, 1) 4 w
    rw [live2] at h; exact h
  have N3 : Hid (∀ w, Calls Try.prog 13 #[pt 0 5, pt (-3) 1, pt 3 1, .int .i64 3] w fun e w' => e = .returned (.bool false) ∧ Gr w w') := fun w => by
    have h := Near_any (0, 5) (-3, 1) (3, 1) 3 w
    rw [live3] at h; exact h
  go_enter Try.func10, Try.ntmps10
  have hG := Gr.refl w
  go_wp2_with (go_at_call 32; refine (at_any _ _ _).mono ?_; rintro e w1 ⟨rfl, q1⟩; replace hG := hG.trans q1; clear q1)
  refine (M.out _).mono ?_
  rintro e w2 ⟨rfl, q2⟩
  replace hG := hG.trans q2
  have g3 := (Gr.refl w2).alloc (.cells #[.int .u8 1, .bool true, .int .i64 1, .int .i64 2, .int .i64 1, .int .i64 2] 30)
  have hM := M6.new w2 (.int .u8 1) (.bool true) (.int .i64 1) (.int .i64 2) (.int .i64 1) (.int .i64 2)
  replace hG := hG.trans g3
  clear q2 g3
  go_wp2_with (go_at_call 32; refine (at_any _ _ _).mono ?_; rintro e w1 ⟨rfl, q1⟩; replace hG := hG.trans q1; clear q1)
  refine (N4.out _).mono ?_
  rintro e w3 ⟨rfl, q3⟩
  replace hG := hG.trans q3
  clear q3
  go_wp2_with (go_at_call 32; refine (at_any _ _ _).mono ?_; rintro e w1 ⟨rfl, q1⟩; replace hG := hG.trans q1; clear q1)
  refine (N3.out _).mono ?_
  rintro e w4 ⟨rfl, q4⟩
  replace hG := hG.trans q4
  go_wp2
  go_ret
  exact ⟨rfl, hG⟩
set_option maxHeartbeats 1000000 in
theorem rin_any (p : P2) (w : World) : Calls Try.prog 18 #[ptv p] w fun e w' => e = .returned (.bool (latP p)) ∧ Gr w w' := by
  obtain ⟨x, y⟩ := p
  show Calls Try.prog 18 #[pt x y] w _
  have E : Hid (latP (x, y) = (decide (-1073741823 ≤ x) && decide (x ≤ 1073741823) && decide (-1073741823 ≤ y) && decide (y ≤ 1073741823))) := by unfold Hid latP latB; simp [Bool.and_assoc]
  by_cases h1 : -1073741823 ≤ x
  · by_cases h2 : x ≤ 1073741823
    · by_cases h3 : -1073741823 ≤ y
      · by_cases h4 : y ≤ 1073741823
        · go_enter Try.func18, Try.ntmps18
          go_wp2
          go_ret
          exact ⟨by rw [E.out]; simp [h1, h2, h3, h4], (Gr.refl _).alloc _⟩
        · go_enter Try.func18, Try.ntmps18
          go_wp2
          go_ret
          exact ⟨by rw [E.out]; simp [h1, h2, h3, h4], (Gr.refl _).alloc _⟩
      · go_enter Try.func18, Try.ntmps18
        go_wp2
        go_ret
        exact ⟨by rw [E.out]; simp [h1, h2]; omega, (Gr.refl _).alloc _⟩
    · go_enter Try.func18, Try.ntmps18
      go_wp2
      go_ret
      exact ⟨by rw [E.out]; simp [h1]; omega, (Gr.refl _).alloc _⟩
  · go_enter Try.func18, Try.ntmps18
    go_wp2
    go_ret
    exact ⟨by rw [E.out]; simp; omega, (Gr.refl _).alloc _⟩
end Go.Proofs.Ytagabccaipfjeaa
