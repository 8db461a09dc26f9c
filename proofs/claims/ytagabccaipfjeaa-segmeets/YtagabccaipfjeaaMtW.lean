/- SegMeets' walk: the law returns true. -/
import Derived.Test.YtagabccaipfjeaaR21
import Derived.Test.YtagabccaipfjeaaSegS
namespace Go.Proofs.Ytagabccaipfjeaa
open Go.RowKit Go.Sort

set_option maxRecDepth 20000 in
set_option maxHeartbeats 4000000 in
theorem meets_walk (ax ay bx by_ cx cy dx dy : Int) (w : World) :
    Calls Try.prog 3 #[fourV ax ay bx by_ cx cy dx dy] w fun e w' => e = .returned (.bool true) ∧ Below w.heap.size w w' := by
  have hF : FourIs (w.alloc (.cells #[.int .i32 ax, .int .i32 ay, .int .i32 bx, .int .i32 by_, .int .i32 cx, .int .i32 cy, .int .i32 dx, .int .i32 dy] 25)) w.heap.size ax ay bx by_ cx cy dx dy := FourIs.new w ax ay bx by_ cx cy dx dy
  have hG : Below w.heap.size w (w.alloc (.cells #[.int .i32 ax, .int .i32 ay, .int .i32 bx, .int .i32 by_, .int .i32 cx, .int .i32 cy, .int .i32 dx, .int .i32 dy] 25)) := ((Gr.refl _).alloc _).below
  have RM : Hid (∀ W, Calls Try.prog 7 #[pt ax ay, pt bx by_, pt cx cy, pt dx dy] W fun e w' => e = .returned (mtv (meetA (ax, ay) (bx, by_) (cx, cy) (dx, dy))) ∧ Below W.heap.size W w') := fun W => rmeet_any (ax, ay) (bx, by_) (cx, cy) (dx, dy) W
  have PM : Hid (∀ W, Calls Try.prog 8 #[pt ax ay, pt bx by_, pt cx cy, pt dx dy] W fun e w' => e = .returned (mtv (meetA (ax, ay) (bx, by_) (cx, cy) (dx, dy))) ∧ Gr W w') := fun W => Meet_any (ax, ay) (bx, by_) (cx, cy) (dx, dy) W
  have PT : Hid (∀ W, Calls Try.prog 9 #[pt ax ay, pt bx by_, pt cx cy, pt dx dy] W fun e w' => e = .returned (.bool (touchA (ax, ay) (bx, by_) (cx, cy) (dx, dy))) ∧ Gr W w') := fun W => Touch_any (ax, ay) (bx, by_) (cx, cy) (dx, dy) W
  have kb : ((meetA (ax, ay) (bx, by_) (cx, cy) (dx, dy)).1 != 0) = touchA (ax, ay) (bx, by_) (cx, cy) (dx, dy) := by
    rw [Bool.eq_iff_iff, bne_iff_ne]; exact kind_ne
  generalize meetA (ax, ay) (bx, by_) (cx, cy) (dx, dy) = mm at *
  generalize touchA (ax, ay) (bx, by_) (cx, cy) (dx, dy) = TB at *
  obtain ⟨mk, mi, ⟨f1, f2⟩, ⟨g1, g2⟩⟩ := mm
  simp only at kb
  have a0 := hF.c0
  have a1 := hF.c1
  have a2 := hF.c2
  have a3 := hF.c3
  have a4 := hF.c4
  have a5 := hF.c5
  have a6 := hF.c6
  have a7 := hF.c7
  go_enter Try.func3, Try.ntmps3
  go_wp2_with fail
  refine (RM.out _).mono ?_
  rintro e w1 ⟨rfl, q1⟩
  have g1' : Below w1.heap.size w1 (w1.alloc (.cells #[.int .u8 mk, .bool mi, .int .i64 f1, .int .i64 f2, .int .i64 g1, .int .i64 g2] 30)) := ((Gr.refl w1).alloc _).below
  have q2 := q1.trans (g1'.mono q1.size)
  replace hG := hG.trans (q2.mono hG.size)
  replace a0 := below_cell hF.c0 q2
  replace a1 := below_cell hF.c1 q2
  replace a2 := below_cell hF.c2 q2
  replace a3 := below_cell hF.c3 q2
  replace a4 := below_cell hF.c4 q2
  replace a5 := below_cell hF.c5 q2
  replace a6 := below_cell hF.c6 q2
  replace a7 := below_cell hF.c7 q2
  have h7 := M6.new w1 (.int .u8 mk) (.bool mi) (.int .i64 f1) (.int .i64 f2) (.int .i64 g1) (.int .i64 g2)
  clear g1' q1 q2 hF RM
  go_upto_region 2 with fail
  generalize w1.alloc (.cells #[.int .u8 mk, .bool mi, .int .i64 f1, .int .i64 f2, .int .i64 g1, .int .i64 g2] 30) = W at *
  generalize w1.heap.size = X3 at *
  have m0 := h7.c0
  have m1 := h7.c1
  have m2 := h7.c2
  have m3 := h7.c3
  have m4 := h7.c4
  have m5 := h7.c5
  have x0 := cell_gr a0
  have x1 := cell_gr a1
  have x2 := cell_gr a2
  have x3 := cell_gr a3
  have x4 := cell_gr a4
  have x5 := cell_gr a5
  have x6 := cell_gr a6
  have x7 := cell_gr a7
  have y0 := cell_gr m0
  have y1 := cell_gr m1
  have y2 := cell_gr m2
  have y3 := cell_gr m3
  have y4 := cell_gr m4
  have y5 := cell_gr m5
  clear a0 a1 a2 a3 a4 a5 a6 a7 m0 m1 m2 m3 m4 m5 h7
  have e30 : (mk == mk) = true := by simp
  have e31 : (mi == mi) = true := by simp
  have e32 : (f1 == f1) = true := by simp
  have e33 : (f2 == f2) = true := by simp
  have e34 : (g1 == g1) = true := by simp
  have e35 : (g2 == g2) = true := by simp
  have e36 : (TB == TB) = true := by simp
  refine wp_region_quiet_grown (by kernel_rfl) (by kernel_rfl) ?_
  repeat (go_big_quiet_step (first
    | (go_at_call 8; exact Calls.grown_of (PM.out _))
    | (go_at_call 9; exact Calls.grown_of (PT.out _))
    | (go_at_call 10; exact Calls.grown_of (lives_any _))))
  refine wpQuiet_nil ?_
  intro _ hw'
  obtain ⟨⟨nq, osq⟩, hw''⟩ := hw'
  subst hw''
  have g : Gr W _ := ⟨nq, osq, rfl⟩
  replace hG := hG.trans (g.below.mono hG.size)
  go_wp2
  go_ret
  exact ⟨rfl, hG⟩
end Go.Proofs.Ytagabccaipfjeaa
