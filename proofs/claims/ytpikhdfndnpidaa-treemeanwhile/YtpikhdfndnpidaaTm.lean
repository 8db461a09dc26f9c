/- Boxes: right ones, their corners, where two meet, the box around two. -/
import Derived.Test.YtpikhdfndnpidaaBa
import Derived.Test.YtpikhdfndnpidaaHd
import Derived.Lib.SmallJoins
set_option linter.unusedSimpArgs false
set_option linter.unusedVariables false
namespace Go.Proofs.Ytpikhdfndnpidaa
open Go.RowKit Go.Sort

def minI (a b : Int) : Int := if a ≤ b then a else b
def maxI (a b : Int) : Int := if a ≤ b then b else a
def rgB (a b c d : Int) : Bool := decide (a ≤ c) && decide (b ≤ d)
abbrev Q4 := Int × Int × Int × Int
abbrev bv (q : Q4) : Value := bx q.1 q.2.1 q.2.2.1 q.2.2.2
def rgQ (q : Q4) : Bool := rgB q.1 q.2.1 q.2.2.1 q.2.2.2
def joinQ (p q : Q4) : Q4 := (minI p.1 q.1, minI p.2.1 q.2.1, maxI p.2.2.1 q.2.2.1, maxI p.2.2.2 q.2.2.2)
def meetB (a0 a1 a2 a3 b0 b1 b2 b3 : Int) : Bool := rgB (maxI a0 b0) (maxI a1 b1) (minI a2 b2) (minI a3 b3)
def meetQ (p q : Q4) : Bool := meetB p.1 p.2.1 p.2.2.1 p.2.2.2 q.1 q.2.1 q.2.2.1 q.2.2.2

set_option maxHeartbeats 1000000 in
theorem right_any (a b c d : Int) (w : World) : Calls Try.prog 31 #[bx a b c d] w fun e w' => e = .returned (.bool (rgB a b c d)) ∧ Gr w w' := by
  go_enter Try.func31, Try.ntmps31
  go_wp2
  all_goals (go_ret; refine ⟨congrArg (fun z => Ending.returned (.bool z)) ?_, (Gr.refl _).alloc _⟩; simp [rgB]; omega)
set_option maxHeartbeats 1000000 in
theorem lower_any (ax ay bx by_ : Int) (w : World) :
    Calls Try.prog 52 #[pt ax ay, pt bx by_] w fun e w' => e = .returned (pt (minI ax bx) (minI ay by_)) ∧ Gr w w' := by
  go_enter Try.func52, Try.ntmps52
  go_wp2
  all_goals
    refine bodyPost_ret (v := pt (minI ax bx) (minI ay by_)) (by simp [results, Try.results52, go_sem]; unfold minI; constructor <;> split <;> omega) rfl ⟨rfl, ?_⟩
    exact (((Gr.refl _).alloc _).alloc _).alloc _
set_option maxHeartbeats 1000000 in
theorem upper_any (ax ay bx by_ : Int) (w : World) :
    Calls Try.prog 51 #[pt ax ay, pt bx by_] w fun e w' => e = .returned (pt (maxI ax bx) (maxI ay by_)) ∧ Gr w w' := by
  go_enter Try.func51, Try.ntmps51
  go_wp2
  all_goals
    refine bodyPost_ret (v := pt (maxI ax bx) (maxI ay by_)) (by simp [results, Try.results51, go_sem]; unfold maxI; constructor <;> split <;> omega) rfl ⟨rfl, ?_⟩
    exact (((Gr.refl _).alloc _).alloc _).alloc _
theorem two_boxes (w : World) (a0 a1 a2 a3 b0 b1 b2 b3 : Int) : ∃ W, W = (w.alloc (.cells #[.int .i32 a0, .int .i32 a1, .int .i32 a2, .int .i32 a3] 36)).alloc (.cells #[.int .i32 b0, .int .i32 b1, .int .i32 b2, .int .i32 b3] 36) ∧ Gr w W ∧
    Bk W w.heap.size 36 [.int .i32 a0, .int .i32 a1, .int .i32 a2, .int .i32 a3] ∧ Bk W (w.heap.size + 1) 36 [.int .i32 b0, .int .i32 b1, .int .i32 b2, .int .i32 b3] := by
  refine ⟨_, rfl, ((Gr.refl _).alloc _).alloc _, (Bk.new w 36 _).alloc _, ?_⟩
  have := Bk.new (w.alloc (.cells #[.int .i32 a0, .int .i32 a1, .int .i32 a2, .int .i32 a3] 36)) 36 [.int .i32 b0, .int .i32 b1, .int .i32 b2, .int .i32 b3]
  rwa [World.size_alloc] at this
set_option maxRecDepth 20000 in
set_option maxHeartbeats 4000000 in
theorem meet_any (a0 a1 a2 a3 b0 b1 b2 b3 : Int) (w : World) :
    Calls Try.prog 40 #[bx a0 a1 a2 a3, bx b0 b1 b2 b3] w fun e w' => e = .returned (.bool (meetB a0 a1 a2 a3 b0 b1 b2 b3)) ∧ Gr w w' := by
  have E : Hid (meetB a0 a1 a2 a3 b0 b1 b2 b3 = rgB (maxI a0 b0) (maxI a1 b1) (minI a2 b2) (minI a3 b3)) := rfl
  go_enter Try.func40, Try.ntmps40
  go_wp2
  obtain ⟨W, hW, hG, k0, k1⟩ := two_boxes w a0 a1 a2 a3 b0 b1 b2 b3
  rw [← hW]
  clear hW
  obtain ⟨y0, y1, y2, y3⟩ := k0.four
  obtain ⟨z0, z1, z2, z3⟩ := k1.four
  have x0 := cell_gr y0
  have x1 := cell_gr y1
  have x2 := cell_gr y2
  have x3 := cell_gr y3
  have x4 := cell_gr z0
  have x5 := cell_gr z1
  have x6 := cell_gr z2
  have x7 := cell_gr z3
  refine wp_region_quiet_grown (by kernel_rfl) (by kernel_rfl) ?_
  repeat (go_big_quiet_step (first
    | (go_at_call 51; exact Calls.grown_of (upper_any _ _ _ _ _))
    | (go_at_call 52; exact Calls.grown_of (lower_any _ _ _ _ _))
    | (go_at_call 31; exact Calls.grown_of (right_any _ _ _ _ _))))
  refine wpQuiet_nil ?_
  intro _ hw'
  obtain ⟨⟨nq, osq⟩, hw''⟩ := hw'
  subst hw''
  go_wp2
  go_ret
  exact ⟨congrArg (fun z => Ending.returned (.bool z)) E.out.symm, hG.trans ⟨nq, osq, rfl⟩⟩
end Go.Proofs.Ytpikhdfndnpidaa
