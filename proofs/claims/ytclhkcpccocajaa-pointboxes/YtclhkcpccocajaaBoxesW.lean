/- The law PointBoxes, walked: for any two boxes and a point the call returns true, and the memory that was there is as it was. -/
import Derived.Test.YtclhkcpccocajaaBox2
namespace Go.Proofs.Ytclhkcpccocajaa
open Go.RowKit Go.Sort

set_option maxRecDepth 20000 in
set_option maxHeartbeats 4000000 in
theorem boxes_walk (a0 a1 a2 a3 b0 b1 b2 b3 x y : Int) (w : World) :
    Calls Try.prog 4 #[bx a0 a1 a2 a3, bx b0 b1 b2 b3, pt x y] w fun e w' => e = .returned (.bool true) ∧ Below w.heap.size w w' := by
  have R1 : Hid (∀ w, Calls Try.prog 26 #[bx a0 a1 a2 a3] w fun e w' => e = .returned (.bool (rightB a0 a1 a2 a3)) ∧ Gr w w') := right_any a0 a1 a2 a3
  have R2 : Hid (∀ w, Calls Try.prog 27 #[bx a0 a1 a2 a3] w fun e w' => e = .returned (.bool (rightB a0 a1 a2 a3)) ∧ Gr w w') := rright_any a0 a1 a2 a3
  have H1 : Hid (∀ w, Calls Try.prog 28 #[bx a0 a1 a2 a3, pt x y] w fun e w' => e = .returned (.bool (hasB a0 a1 a2 a3 x y)) ∧ Gr w w') := has_any a0 a1 a2 a3 x y
  have H2 : Hid (∀ w, Calls Try.prog 29 #[bx a0 a1 a2 a3, pt x y] w fun e w' => e = .returned (.bool (hasB a0 a1 a2 a3 x y)) ∧ Gr w w') := rhas_any a0 a1 a2 a3 x y
  have M1 : Hid (∀ w, Calls Try.prog 30 #[bx a0 a1 a2 a3, bx b0 b1 b2 b3] w fun e w' => e = .returned (.bool (meetB a0 a1 a2 a3 b0 b1 b2 b3)) ∧ Gr w w') := meet_any a0 a1 a2 a3 b0 b1 b2 b3
  have M2 : Hid (∀ w, Calls Try.prog 31 #[bx a0 a1 a2 a3, bx b0 b1 b2 b3] w fun e w' => e = .returned (.bool (meetB a0 a1 a2 a3 b0 b1 b2 b3)) ∧ Gr w w') := rmeet_any a0 a1 a2 a3 b0 b1 b2 b3
  have J1 : Hid (∀ w, Calls Try.prog 32 #[bx a0 a1 a2 a3, bx b0 b1 b2 b3] w fun e w' => e = .returned (bxv (joinQ a0 a1 a2 a3 b0 b1 b2 b3)) ∧ Below w.heap.size w w') := join_any a0 a1 a2 a3 b0 b1 b2 b3
  have J2 : Hid (∀ w, Calls Try.prog 33 #[bx a0 a1 a2 a3, bx b0 b1 b2 b3] w fun e w' => e = .returned (bxv (joinQ a0 a1 a2 a3 b0 b1 b2 b3)) ∧ Below w.heap.size w w') := rjoin_any a0 a1 a2 a3 b0 b1 b2 b3
  generalize rightB a0 a1 a2 a3 = r at *
  generalize hasB a0 a1 a2 a3 x y = h at *
  generalize meetB a0 a1 a2 a3 b0 b1 b2 b3 = m at *
  obtain ⟨j0, j1, j2, j3, hj⟩ : ∃ j0 j1 j2 j3, joinQ a0 a1 a2 a3 b0 b1 b2 b3 = (j0, j1, j2, j3) := ⟨_, _, _, _, rfl⟩
  rw [hj] at J1 J2
  clear hj
  go_enter Try.func4, Try.ntmps4
  go_upto_region 1 with fail
  have hG : Below w.heap.size w (((w.alloc (.cells #[.int .i32 a0, .int .i32 a1, .int .i32 a2, .int .i32 a3] 35)).alloc (.cells #[.int .i32 b0, .int .i32 b1, .int .i32 b2, .int .i32 b3] 35)).alloc (.cells #[.int .i32 x, .int .i32 y] 23)) := ((((Gr.refl _).alloc _).alloc _).alloc _).below
  have F := (BoxesAre.new w a0 a1 a2 a3 b0 b1 b2 b3).gr ((Gr.refl _).alloc (.cells #[.int .i32 x, .int .i32 y] 23)).below
  have p0 : (((w.alloc (.cells #[.int .i32 a0, .int .i32 a1, .int .i32 a2, .int .i32 a3] 35)).alloc (.cells #[.int .i32 b0, .int .i32 b1, .int .i32 b2, .int .i32 b3] 35)).alloc (.cells #[.int .i32 x, .int .i32 y] 23)).cell? ⟨w.heap.size + 1 + 1, 0, none⟩ = some (.int .i32 x) := by go_simp
  have p1 : (((w.alloc (.cells #[.int .i32 a0, .int .i32 a1, .int .i32 a2, .int .i32 a3] 35)).alloc (.cells #[.int .i32 b0, .int .i32 b1, .int .i32 b2, .int .i32 b3] 35)).alloc (.cells #[.int .i32 x, .int .i32 y] 23)).cell? ⟨w.heap.size + 1 + 1, 1, none⟩ = some (.int .i32 y) := by go_simp
  generalize ((w.alloc (.cells #[.int .i32 a0, .int .i32 a1, .int .i32 a2, .int .i32 a3] 35)).alloc (.cells #[.int .i32 b0, .int .i32 b1, .int .i32 b2, .int .i32 b3] 35)).alloc (.cells #[.int .i32 x, .int .i32 y] 23) = W at *
  go_cut [7] (fun s w' => s = .bool true ∧ Gr W w')
  case first => as_aux_lemma =>
    have x0 := cell_gr F.c0
    have x1 := cell_gr F.c1
    have x2 := cell_gr F.c2
    have x3 := cell_gr F.c3
    have x4 := cell_gr F.c4
    have x5 := cell_gr F.c5
    have x6 := cell_gr F.c6
    have x7 := cell_gr F.c7
    have y0 := cell_gr p0
    have y1 := cell_gr p1
    refine wp_region_quiet_grown (by kernel_rfl) (by kernel_rfl) ?_
    repeat (go_big_quiet_step (first
      | (go_at_call 26; exact Calls.grown_of (R1.out _))
      | (go_at_call 27; exact Calls.grown_of (R2.out _))
      | (go_at_call 28; exact Calls.grown_of (H1.out _))
      | (go_at_call 29; exact Calls.grown_of (H2.out _))))
    refine wpQuiet_nil ?_
    intro _ hw'
    obtain ⟨⟨nq, osq⟩, hw''⟩ := hw'
    subst hw''
    go_wp2
    go_meet
    case rel => exact ⟨rfl, ⟨nq, osq, rfl⟩⟩
  case rest => as_aux_lemma =>
    obtain ⟨rfl, g⟩ := hcut
    clear R1 R2 H1 H2 p0 p1
    replace hG := hG.trans (g.below.mono hG.size)
    replace F := F.gr g.below
    clear g
    go_upto_region 2 with fail
    have x0 := F.c0
    have x1 := F.c1
    have x2 := F.c2
    have x3 := F.c3
    have x4 := F.c4
    have x5 := F.c5
    have x6 := F.c6
    have x7 := F.c7
    have hK : wc.heap.size ≤ wc.heap.size := Nat.le_refl _
    have hS0 : Hid (T8 ⟨w.heap.size, 0, none⟩ ⟨w.heap.size, 1, none⟩ ⟨w.heap.size, 2, none⟩ ⟨w.heap.size, 3, none⟩ ⟨w.heap.size + 1, 0, none⟩ ⟨w.heap.size + 1, 1, none⟩ ⟨w.heap.size + 1, 2, none⟩ ⟨w.heap.size + 1, 3, none⟩ (.int .i32 a0) (.int .i32 a1) (.int .i32 a2) (.int .i32 a3) (.int .i32 b0) (.int .i32 b1) (.int .i32 b2) (.int .i32 b3) wc.heap.size wc wc.drew) := ⟨x0, x1, x2, x3, x4, x5, x6, x7, (Below.refl _ _).drew⟩
    go_region_held3 (T8 ⟨w.heap.size, 0, none⟩ ⟨w.heap.size, 1, none⟩ ⟨w.heap.size, 2, none⟩ ⟨w.heap.size, 3, none⟩ ⟨w.heap.size + 1, 0, none⟩ ⟨w.heap.size + 1, 1, none⟩ ⟨w.heap.size + 1, 2, none⟩ ⟨w.heap.size + 1, 3, none⟩ (.int .i32 a0) (.int .i32 a1) (.int .i32 a2) (.int .i32 a3) (.int .i32 b0) (.int .i32 b1) (.int .i32 b2) (.int .i32 b3) wc.heap.size wc)
      (first | with_reducible exact hS0.out | exact T8.call (by assumption) hK (by assumption))
      (first
        | (go_at_call 30; refine (M1.out _).mono ?_; rintro e z0 ⟨rfl, g0⟩; have hb0 := g0.below)
        | (go_at_call 31; refine (M2.out _).mono ?_; rintro e z1 ⟨rfl, g1⟩; have hb1 := g1.below)
        | (go_at_call 32; refine (J1.out _).mono ?_; rintro e z2 ⟨rfl, hb2⟩)
        | (go_at_call 33; refine (J2.out _).mono ?_; rintro e z3 ⟨rfl, hb3⟩))
    have hbW : Below wc.heap.size wc z3 := (by assumption : T8 ⟨w.heap.size, 0, none⟩ ⟨w.heap.size, 1, none⟩ ⟨w.heap.size, 2, none⟩ ⟨w.heap.size, 3, none⟩ ⟨w.heap.size + 1, 0, none⟩ ⟨w.heap.size + 1, 1, none⟩ ⟨w.heap.size + 1, 2, none⟩ ⟨w.heap.size + 1, 3, none⟩ (.int .i32 a0) (.int .i32 a1) (.int .i32 a2) (.int .i32 a3) (.int .i32 b0) (.int .i32 b1) (.int .i32 b2) (.int .i32 b3) wc.heap.size wc z3).2.2.2.2.2.2.2.2
    go_wp2
    go_ret
    exact ⟨rfl, hG.trans (hbW.mono hG.size)⟩
end Go.Proofs.Ytclhkcpccocajaa
