/- The law PointExact, walked: for any four points the call returns true, and the memory that was there is as it was. -/
import Derived.Test.YtclhkcpccocajaaRef7
import Derived.Test.YtclhkcpccocajaaFour
namespace Go.Proofs.Ytclhkcpccocajaa
open Go.RowKit Go.Sort

/-- Eight cells, and that nothing below K has turned. -/
abbrev S8 (a0 a1 a2 a3 a4 a5 a6 a7 : Addr) (x0 x1 x2 x3 x4 x5 x6 x7 : Value) (K : Nat) (W : World) (w : World) : Prop :=
  w.cell? a0 = some x0 ∧ w.cell? a1 = some x1 ∧ w.cell? a2 = some x2 ∧ w.cell? a3 = some x3 ∧ w.cell? a4 = some x4 ∧ w.cell? a5 = some x5 ∧ w.cell? a6 = some x6 ∧ w.cell? a7 = some x7 ∧ Below K W w
theorem S8.call {a0 a1 a2 a3 a4 a5 a6 a7 : Addr} {x0 x1 x2 x3 x4 x5 x6 x7 : Value} {K : Nat} {W w w' : World} (h : S8 a0 a1 a2 a3 a4 a5 a6 a7 x0 x1 x2 x3 x4 x5 x6 x7 K W w) (hK : K ≤ W.heap.size) (g : Below w.heap.size w w') : S8 a0 a1 a2 a3 a4 a5 a6 a7 x0 x1 x2 x3 x4 x5 x6 x7 K W w' := by
  obtain ⟨h0, h1, h2, h3, h4, h5, h6, h7, hb⟩ := h
  exact ⟨below_cell h0 g, below_cell h1 g, below_cell h2 g, below_cell h3 g, below_cell h4 g, below_cell h5 g, below_cell h6 g, below_cell h7 g, hb.trans (g.mono (Nat.le_trans hK hb.size))⟩

set_option maxRecDepth 20000 in
set_option maxHeartbeats 8000000 in
theorem exact_walk (ox oy ax ay bx by_ px py : Int) (h0 : in32 ox) (h1 : in32 oy) (h2 : in32 ax) (h3 : in32 ay) (h4 : in32 bx) (h5 : in32 by_) (h6 : in32 px) (h7 : in32 py) (w : World) :
    Calls Try.prog 3 #[fourV ox oy ax ay bx by_ px py] w fun e w' => e = .returned (.bool true) ∧ Below w.heap.size w w' := by
  have I1 : Hid (∀ w, Calls Try.prog 9 #[pt ox oy] w fun e w' => e = .returned (.bool (latB ox && latB oy)) ∧ Gr w w') := in_any ox oy
  have I2 : Hid (∀ w, Calls Try.prog 10 #[pt ox oy] w fun e w' => e = .returned (.bool (latB ox && latB oy)) ∧ Gr w w') := rin_any ox oy
  have M1 : Hid (∀ w, Calls Try.prog 11 #[pt ax ay, pt bx by_] w fun e w' => e = .returned (.int .i64 (cmpP ax ay bx by_)) ∧ Gr w w') := pcmp_any ax ay bx by_
  have M2 : Hid (∀ w, Calls Try.prog 12 #[pt ax ay, pt bx by_] w fun e w' => e = .returned (.int .i64 (cmpP ax ay bx by_)) ∧ Gr w w') := rcmp_any ax ay bx by_
  have M3 : Hid (∀ w, Calls Try.prog 13 #[pt ax ay, pt bx by_] w fun e w' => e = .returned (.bool (decide (cmpP ax ay bx by_ < 0))) ∧ Gr w w') := pless_any ax ay bx by_
  have X1 : Hid (∀ w, Calls Try.prog 14 #[pt ox oy, pt ax ay, pt bx by_] w fun e w' => e = .returned (.int .i64 (wrap64 ((ax - ox) * (by_ - oy) - (ay - oy) * (bx - ox)))) ∧ Gr w w') := cross_any ox oy ax ay bx by_ h0 h1 h2 h3 h4 h5
  have X2 : Hid (∀ w, Calls Try.prog 15 #[pt ox oy, pt ax ay, pt bx by_] w fun e w' => e = .returned (.int .i64 (wrap64 ((ax - ox) * (by_ - oy) - (ay - oy) * (bx - ox)))) ∧ Below w.heap.size w w') := rCross_any ox oy ax ay bx by_ h0 h1 h2 h3 h4 h5
  have D1 : Hid (∀ w, Calls Try.prog 16 #[pt ox oy, pt ax ay, pt bx by_] w fun e w' => e = .returned (.int .i64 (wrap64 ((ax - ox) * (bx - ox) + (ay - oy) * (by_ - oy)))) ∧ Gr w w') := dot_any ox oy ax ay bx by_ h0 h1 h2 h3 h4 h5
  have D2 : Hid (∀ w, Calls Try.prog 17 #[pt ox oy, pt ax ay, pt bx by_] w fun e w' => e = .returned (.int .i64 (wrap64 ((ax - ox) * (bx - ox) + (ay - oy) * (by_ - oy)))) ∧ Below w.heap.size w w') := rDot_any ox oy ax ay bx by_ h0 h1 h2 h3 h4 h5
  have Q1 : Hid (∀ w, Calls Try.prog 18 #[pt ax ay, pt bx by_] w fun e w' => e = .returned (.int .i64 (wrap64 ((bx - ax) * (bx - ax) + (by_ - ay) * (by_ - ay)))) ∧ Gr w w') := dist2_any ax ay bx by_ h2 h3 h4 h5
  have Q2 : Hid (∀ w, Calls Try.prog 19 #[pt ax ay, pt bx by_] w fun e w' => e = .returned (.int .i64 (wrap64 ((bx - ax) * (bx - ax) + (by_ - ay) * (by_ - ay)))) ∧ Below w.heap.size w w') := rDist2_any ax ay bx by_ h2 h3 h4 h5
  have T1 : Hid (∀ w, Calls Try.prog 20 #[pt ox oy, pt ax ay, pt bx by_] w fun e w' => e = .returned (.int .i64 (turnI ox oy ax ay bx by_)) ∧ Gr w w') := turn_any ox oy ax ay bx by_ h0 h1 h2 h3 h4 h5
  have T2 : Hid (∀ w, Calls Try.prog 21 #[pt ox oy, pt ax ay, pt bx by_] w fun e w' => e = .returned (.int .i64 (turnI ox oy ax ay bx by_)) ∧ Below w.heap.size w w') := rturn_any ox oy ax ay bx by_ h0 h1 h2 h3 h4 h5
  have U1 : Hid (∀ w, Calls Try.prog 22 #[pt ox oy, pt ax ay, pt bx by_] w fun e w' => e = .returned (.int .i64 (aroundI ox oy ax ay bx by_)) ∧ Gr w w') := around_any ox oy ax ay bx by_ h0 h1 h2 h3 h4 h5
  have U2 : Hid (∀ w, Calls Try.prog 23 #[pt ox oy, pt ax ay, pt bx by_] w fun e w' => e = .returned (.int .i64 (aroundI ox oy ax ay bx by_)) ∧ Below w.heap.size w w') := raround_any ox oy ax ay bx by_ h0 h1 h2 h3 h4 h5
  have N1 : Hid (∀ w, Calls Try.prog 24 #[pt px py, pt ax ay, pt bx by_] w fun e w' => e = .returned (.bool (onB px py ax ay bx by_)) ∧ Gr w w') := on_any px py ax ay bx by_ h6 h7 h2 h3 h4 h5
  have N2 : Hid (∀ w, Calls Try.prog 25 #[pt px py, pt ax ay, pt bx by_] w fun e w' => e = .returned (.bool (onB px py ax ay bx by_)) ∧ Below w.heap.size w w') := ron_any px py ax ay bx by_ h6 h7 h2 h3 h4 h5
  have N3 : Hid (∀ w, Calls Try.prog 24 #[pt ox oy, pt ax ay, pt bx by_] w fun e w' => e = .returned (.bool (onB ox oy ax ay bx by_)) ∧ Gr w w') := on_any ox oy ax ay bx by_ h0 h1 h2 h3 h4 h5
  have N4 : Hid (∀ w, Calls Try.prog 25 #[pt ox oy, pt ax ay, pt bx by_] w fun e w' => e = .returned (.bool (onB ox oy ax ay bx by_)) ∧ Below w.heap.size w w') := ron_any ox oy ax ay bx by_ h0 h1 h2 h3 h4 h5
  clear h0 h1 h2 h3 h4 h5 h6 h7
  generalize wrap64 ((ax - ox) * (by_ - oy) - (ay - oy) * (bx - ox)) = cv at *
  generalize wrap64 ((ax - ox) * (bx - ox) + (ay - oy) * (by_ - oy)) = dv at *
  generalize wrap64 ((bx - ax) * (bx - ax) + (by_ - ay) * (by_ - ay)) = qv at *
  generalize turnI ox oy ax ay bx by_ = tv at *
  generalize aroundI ox oy ax ay bx by_ = uv at *
  generalize onB px py ax ay bx by_ = n1 at *
  generalize onB ox oy ax ay bx by_ = n2 at *
  generalize (latB ox && latB oy) = iv at *
  generalize cmpP ax ay bx by_ = mv at *
  go_enter Try.func3, Try.ntmps3
  go_upto_region 4 with fail
  have hG : Below w.heap.size w ((((w.alloc (.cells #[.int .i32 ox, .int .i32 oy, .int .i32 ax, .int .i32 ay, .int .i32 bx, .int .i32 by_, .int .i32 px, .int .i32 py] 25)).alloc (.cells #[.int .i32 ox, .int .i32 oy] 23)).alloc (.cells #[.int .i32 ax, .int .i32 ay] 23)).alloc (.cells #[.int .i32 bx, .int .i32 by_] 23)) := (((((Gr.refl _).alloc _).alloc _).alloc _).alloc _).below
  have x0 : ((((w.alloc (.cells #[.int .i32 ox, .int .i32 oy, .int .i32 ax, .int .i32 ay, .int .i32 bx, .int .i32 by_, .int .i32 px, .int .i32 py] 25)).alloc (.cells #[.int .i32 ox, .int .i32 oy] 23)).alloc (.cells #[.int .i32 ax, .int .i32 ay] 23)).alloc (.cells #[.int .i32 bx, .int .i32 by_] 23)).cell? ⟨w.heap.size + 1, 0, none⟩ = some (.int .i32 ox) := by go_simp
  have x1 : ((((w.alloc (.cells #[.int .i32 ox, .int .i32 oy, .int .i32 ax, .int .i32 ay, .int .i32 bx, .int .i32 by_, .int .i32 px, .int .i32 py] 25)).alloc (.cells #[.int .i32 ox, .int .i32 oy] 23)).alloc (.cells #[.int .i32 ax, .int .i32 ay] 23)).alloc (.cells #[.int .i32 bx, .int .i32 by_] 23)).cell? ⟨w.heap.size + 1, 1, none⟩ = some (.int .i32 oy) := by go_simp
  have x2 : ((((w.alloc (.cells #[.int .i32 ox, .int .i32 oy, .int .i32 ax, .int .i32 ay, .int .i32 bx, .int .i32 by_, .int .i32 px, .int .i32 py] 25)).alloc (.cells #[.int .i32 ox, .int .i32 oy] 23)).alloc (.cells #[.int .i32 ax, .int .i32 ay] 23)).alloc (.cells #[.int .i32 bx, .int .i32 by_] 23)).cell? ⟨w.heap.size + 1 + 1, 0, none⟩ = some (.int .i32 ax) := by go_simp
  have x3 : ((((w.alloc (.cells #[.int .i32 ox, .int .i32 oy, .int .i32 ax, .int .i32 ay, .int .i32 bx, .int .i32 by_, .int .i32 px, .int .i32 py] 25)).alloc (.cells #[.int .i32 ox, .int .i32 oy] 23)).alloc (.cells #[.int .i32 ax, .int .i32 ay] 23)).alloc (.cells #[.int .i32 bx, .int .i32 by_] 23)).cell? ⟨w.heap.size + 1 + 1, 1, none⟩ = some (.int .i32 ay) := by go_simp
  have x4 : ((((w.alloc (.cells #[.int .i32 ox, .int .i32 oy, .int .i32 ax, .int .i32 ay, .int .i32 bx, .int .i32 by_, .int .i32 px, .int .i32 py] 25)).alloc (.cells #[.int .i32 ox, .int .i32 oy] 23)).alloc (.cells #[.int .i32 ax, .int .i32 ay] 23)).alloc (.cells #[.int .i32 bx, .int .i32 by_] 23)).cell? ⟨w.heap.size + 1 + 1 + 1, 0, none⟩ = some (.int .i32 bx) := by go_simp
  have x5 : ((((w.alloc (.cells #[.int .i32 ox, .int .i32 oy, .int .i32 ax, .int .i32 ay, .int .i32 bx, .int .i32 by_, .int .i32 px, .int .i32 py] 25)).alloc (.cells #[.int .i32 ox, .int .i32 oy] 23)).alloc (.cells #[.int .i32 ax, .int .i32 ay] 23)).alloc (.cells #[.int .i32 bx, .int .i32 by_] 23)).cell? ⟨w.heap.size + 1 + 1 + 1, 1, none⟩ = some (.int .i32 by_) := by go_simp
  have x6 : ((((w.alloc (.cells #[.int .i32 ox, .int .i32 oy, .int .i32 ax, .int .i32 ay, .int .i32 bx, .int .i32 by_, .int .i32 px, .int .i32 py] 25)).alloc (.cells #[.int .i32 ox, .int .i32 oy] 23)).alloc (.cells #[.int .i32 ax, .int .i32 ay] 23)).alloc (.cells #[.int .i32 bx, .int .i32 by_] 23)).cell? ⟨w.heap.size, 6, none⟩ = some (.int .i32 px) := by go_simp
  have x7 : ((((w.alloc (.cells #[.int .i32 ox, .int .i32 oy, .int .i32 ax, .int .i32 ay, .int .i32 bx, .int .i32 by_, .int .i32 px, .int .i32 py] 25)).alloc (.cells #[.int .i32 ox, .int .i32 oy] 23)).alloc (.cells #[.int .i32 ax, .int .i32 ay] 23)).alloc (.cells #[.int .i32 bx, .int .i32 by_] 23)).cell? ⟨w.heap.size, 7, none⟩ = some (.int .i32 py) := by go_simp
  generalize (((w.alloc (.cells #[.int .i32 ox, .int .i32 oy, .int .i32 ax, .int .i32 ay, .int .i32 bx, .int .i32 by_, .int .i32 px, .int .i32 py] 25)).alloc (.cells #[.int .i32 ox, .int .i32 oy] 23)).alloc (.cells #[.int .i32 ax, .int .i32 ay] 23)).alloc (.cells #[.int .i32 bx, .int .i32 by_] 23) = W at *
  go_cut [35] (fun s w' => s = .bool false ∧ Gr W w')
  case first => as_aux_lemma =>
    have y0 := cell_gr x0
    have y1 := cell_gr x1
    have y2 := cell_gr x2
    have y3 := cell_gr x3
    have y4 := cell_gr x4
    have y5 := cell_gr x5
    refine wp_region_quiet_grown (by kernel_rfl) (by kernel_rfl) ?_
    repeat (go_big_quiet_step (first
      | (go_at_call 9; exact Calls.grown_of (I1.out _))
      | (go_at_call 10; exact Calls.grown_of (I2.out _))
      | (go_at_call 11; exact Calls.grown_of (M1.out _))
      | (go_at_call 12; exact Calls.grown_of (M2.out _))
      | (go_at_call 13; exact Calls.grown_of (M3.out _))))
    refine wpQuiet_nil ?_
    intro _ hw'
    obtain ⟨⟨nq, osq⟩, hw''⟩ := hw'
    subst hw''
    go_wp2
    go_meet
    case rel => exact ⟨rfl, ⟨nq, osq, rfl⟩⟩
  case rest => as_aux_lemma =>
    obtain ⟨rfl, g⟩ := hcut
    clear I1 I2 M1 M2 M3
    replace hG := hG.trans (g.below.mono hG.size)
    replace x0 := below_cell x0 g.below
    replace x1 := below_cell x1 g.below
    replace x2 := below_cell x2 g.below
    replace x3 := below_cell x3 g.below
    replace x4 := below_cell x4 g.below
    replace x5 := below_cell x5 g.below
    replace x6 := below_cell x6 g.below
    replace x7 := below_cell x7 g.below
    clear g
    go_upto_region 6 with fail
    go_cut [64] (fun s w' => s = .bool false ∧ Below wc.heap.size wc w')
    case first => as_aux_lemma =>
      have hK : wc.heap.size ≤ wc.heap.size := Nat.le_refl _
      have hS0 : Hid (S6 ⟨w.heap.size + 1, 0, none⟩ ⟨w.heap.size + 1, 1, none⟩ ⟨w.heap.size + 1 + 1, 0, none⟩ ⟨w.heap.size + 1 + 1, 1, none⟩ ⟨w.heap.size + 1 + 1 + 1, 0, none⟩ ⟨w.heap.size + 1 + 1 + 1, 1, none⟩ (.int .i32 ox) (.int .i32 oy) (.int .i32 ax) (.int .i32 ay) (.int .i32 bx) (.int .i32 by_) wc.heap.size wc wc.drew) := ⟨x0, x1, x2, x3, x4, x5, (Below.refl _ _).drew⟩
      go_region_held3 (S6 ⟨w.heap.size + 1, 0, none⟩ ⟨w.heap.size + 1, 1, none⟩ ⟨w.heap.size + 1 + 1, 0, none⟩ ⟨w.heap.size + 1 + 1, 1, none⟩ ⟨w.heap.size + 1 + 1 + 1, 0, none⟩ ⟨w.heap.size + 1 + 1 + 1, 1, none⟩ (.int .i32 ox) (.int .i32 oy) (.int .i32 ax) (.int .i32 ay) (.int .i32 bx) (.int .i32 by_) wc.heap.size wc)
        (first | with_reducible exact hS0.out | exact S6.call (by assumption) hK (by assumption))
        (first
          | (go_at_call 14; refine (X1.out _).mono ?_; rintro e z0 ⟨rfl, hg0⟩; have hb0 := hg0.below)
          | (go_at_call 15; refine (X2.out _).mono ?_; rintro e z1 ⟨rfl, hb1⟩)
          | (go_at_call 16; refine (D1.out _).mono ?_; rintro e z2 ⟨rfl, hg2⟩; have hb2 := hg2.below)
          | (go_at_call 17; refine (D2.out _).mono ?_; rintro e z3 ⟨rfl, hb3⟩)
          | (go_at_call 18; refine (Q1.out _).mono ?_; rintro e z4 ⟨rfl, hg4⟩; have hb4 := hg4.below)
          | (go_at_call 19; refine (Q2.out _).mono ?_; rintro e z5 ⟨rfl, hb5⟩))
      have hbW : Below wc.heap.size wc z5 := (by assumption : S6 ⟨w.heap.size + 1, 0, none⟩ ⟨w.heap.size + 1, 1, none⟩ ⟨w.heap.size + 1 + 1, 0, none⟩ ⟨w.heap.size + 1 + 1, 1, none⟩ ⟨w.heap.size + 1 + 1 + 1, 0, none⟩ ⟨w.heap.size + 1 + 1 + 1, 1, none⟩ (.int .i32 ox) (.int .i32 oy) (.int .i32 ax) (.int .i32 ay) (.int .i32 bx) (.int .i32 by_) wc.heap.size wc z5).2.2.2.2.2.2
      go_wp2
      go_meet
      case rel => exact ⟨rfl, hbW⟩
    case rest => as_aux_lemma =>
      obtain ⟨rfl, g⟩ := hcut
      clear X1 X2 D1 D2 Q1 Q2
      replace hG := hG.trans (g.mono hG.size)
      replace x0 := below_cell x0 g
      replace x1 := below_cell x1 g
      replace x2 := below_cell x2 g
      replace x3 := below_cell x3 g
      replace x4 := below_cell x4 g
      replace x5 := below_cell x5 g
      replace x6 := below_cell x6 g
      replace x7 := below_cell x7 g
      clear g
      go_upto_region 8 with fail
      go_cut [84] (fun s w' => s = .bool false ∧ Below wc.heap.size wc w')
      case first => as_aux_lemma =>
        have hK : wc.heap.size ≤ wc.heap.size := Nat.le_refl _
        have hS0 : Hid (S6 ⟨w.heap.size + 1, 0, none⟩ ⟨w.heap.size + 1, 1, none⟩ ⟨w.heap.size + 1 + 1, 0, none⟩ ⟨w.heap.size + 1 + 1, 1, none⟩ ⟨w.heap.size + 1 + 1 + 1, 0, none⟩ ⟨w.heap.size + 1 + 1 + 1, 1, none⟩ (.int .i32 ox) (.int .i32 oy) (.int .i32 ax) (.int .i32 ay) (.int .i32 bx) (.int .i32 by_) wc.heap.size wc wc.drew) := ⟨x0, x1, x2, x3, x4, x5, (Below.refl _ _).drew⟩
        go_region_held3 (S6 ⟨w.heap.size + 1, 0, none⟩ ⟨w.heap.size + 1, 1, none⟩ ⟨w.heap.size + 1 + 1, 0, none⟩ ⟨w.heap.size + 1 + 1, 1, none⟩ ⟨w.heap.size + 1 + 1 + 1, 0, none⟩ ⟨w.heap.size + 1 + 1 + 1, 1, none⟩ (.int .i32 ox) (.int .i32 oy) (.int .i32 ax) (.int .i32 ay) (.int .i32 bx) (.int .i32 by_) wc.heap.size wc)
          (first | with_reducible exact hS0.out | exact S6.call (by assumption) hK (by assumption))
          (first
            | (go_at_call 20; refine (T1.out _).mono ?_; rintro e z0 ⟨rfl, hg0⟩; have hb0 := hg0.below)
            | (go_at_call 21; refine (T2.out _).mono ?_; rintro e z1 ⟨rfl, hb1⟩)
            | (go_at_call 22; refine (U1.out _).mono ?_; rintro e z2 ⟨rfl, hg2⟩; have hb2 := hg2.below)
            | (go_at_call 23; refine (U2.out _).mono ?_; rintro e z3 ⟨rfl, hb3⟩))
        have hbW : Below wc.heap.size wc z3 := (by assumption : S6 ⟨w.heap.size + 1, 0, none⟩ ⟨w.heap.size + 1, 1, none⟩ ⟨w.heap.size + 1 + 1, 0, none⟩ ⟨w.heap.size + 1 + 1, 1, none⟩ ⟨w.heap.size + 1 + 1 + 1, 0, none⟩ ⟨w.heap.size + 1 + 1 + 1, 1, none⟩ (.int .i32 ox) (.int .i32 oy) (.int .i32 ax) (.int .i32 ay) (.int .i32 bx) (.int .i32 by_) wc.heap.size wc z3).2.2.2.2.2.2
        go_wp2
        go_meet
        case rel => exact ⟨rfl, hbW⟩
      case rest => as_aux_lemma =>
        obtain ⟨rfl, g⟩ := hcut
        clear T1 T2 U1 U2
        replace hG := hG.trans (g.mono hG.size)
        replace x0 := below_cell x0 g
        replace x1 := below_cell x1 g
        replace x2 := below_cell x2 g
        replace x3 := below_cell x3 g
        replace x4 := below_cell x4 g
        replace x5 := below_cell x5 g
        replace x6 := below_cell x6 g
        replace x7 := below_cell x7 g
        clear g
        go_upto_region 10 with fail
        have hK : wc.heap.size ≤ wc.heap.size := Nat.le_refl _
        have hS0 : Hid (S8 ⟨w.heap.size + 1, 0, none⟩ ⟨w.heap.size + 1, 1, none⟩ ⟨w.heap.size + 1 + 1, 0, none⟩ ⟨w.heap.size + 1 + 1, 1, none⟩ ⟨w.heap.size + 1 + 1 + 1, 0, none⟩ ⟨w.heap.size + 1 + 1 + 1, 1, none⟩ ⟨w.heap.size, 6, none⟩ ⟨w.heap.size, 7, none⟩ (.int .i32 ox) (.int .i32 oy) (.int .i32 ax) (.int .i32 ay) (.int .i32 bx) (.int .i32 by_) (.int .i32 px) (.int .i32 py) wc.heap.size wc wc.drew) := ⟨x0, x1, x2, x3, x4, x5, x6, x7, (Below.refl _ _).drew⟩
        go_region_held3 (S8 ⟨w.heap.size + 1, 0, none⟩ ⟨w.heap.size + 1, 1, none⟩ ⟨w.heap.size + 1 + 1, 0, none⟩ ⟨w.heap.size + 1 + 1, 1, none⟩ ⟨w.heap.size + 1 + 1 + 1, 0, none⟩ ⟨w.heap.size + 1 + 1 + 1, 1, none⟩ ⟨w.heap.size, 6, none⟩ ⟨w.heap.size, 7, none⟩ (.int .i32 ox) (.int .i32 oy) (.int .i32 ax) (.int .i32 ay) (.int .i32 bx) (.int .i32 by_) (.int .i32 px) (.int .i32 py) wc.heap.size wc)
          (first | with_reducible exact hS0.out | exact S8.call (by assumption) hK (by assumption))
          (first
            | (go_at_call_of 24 px; refine (N1.out _).mono ?_; rintro e z0 ⟨rfl, hg0⟩; have hb0 := hg0.below)
            | (go_at_call_of 25 px; refine (N2.out _).mono ?_; rintro e z1 ⟨rfl, hb1⟩)
            | (go_at_call 24; refine (N3.out _).mono ?_; rintro e z2 ⟨rfl, hg2⟩; have hb2 := hg2.below)
            | (go_at_call 25; refine (N4.out _).mono ?_; rintro e z3 ⟨rfl, hb3⟩))
        have hbW : Below wc.heap.size wc z3 := (by assumption : S8 ⟨w.heap.size + 1, 0, none⟩ ⟨w.heap.size + 1, 1, none⟩ ⟨w.heap.size + 1 + 1, 0, none⟩ ⟨w.heap.size + 1 + 1, 1, none⟩ ⟨w.heap.size + 1 + 1 + 1, 0, none⟩ ⟨w.heap.size + 1 + 1 + 1, 1, none⟩ ⟨w.heap.size, 6, none⟩ ⟨w.heap.size, 7, none⟩ (.int .i32 ox) (.int .i32 oy) (.int .i32 ax) (.int .i32 ay) (.int .i32 bx) (.int .i32 by_) (.int .i32 px) (.int .i32 py) wc.heap.size wc z3).2.2.2.2.2.2.2.2
        go_wp2
        go_ret
        exact ⟨rfl, hG.trans (hbW.mono hG.size)⟩

end Go.Proofs.Ytclhkcpccocajaa
