/- The law PointOrder, walked: for any four points the call returns true, and the memory that was there is as it was. -/
import Derived.Test.YtclhkcpccocajaaOrderP
import Derived.Test.YtclhkcpccocajaaFour
namespace Go.Proofs.Ytclhkcpccocajaa
open Go.RowKit Go.Sort

set_option maxRecDepth 20000 in
set_option maxHeartbeats 4000000 in
theorem order_walk (ox oy ax ay bx by_ px py : Int) (h0 : in32 ox) (h1 : in32 oy) (h2 : in32 ax) (h3 : in32 ay) (h4 : in32 bx) (h5 : in32 by_) (h6 : in32 px) (h7 : in32 py) (w : World) :
    Calls Try.prog 7 #[fourV ox oy ax ay bx by_ px py] w fun e w' => e = .returned (.bool true) ∧ Gr w w' := by
  have tr : aroundI ox oy ax ay bx by_ ≤ 0 → aroundI ox oy bx by_ px py ≤ 0 → aroundI ox oy ax ay px py ≤ 0 := around_tri ox oy ax ay bx by_ px py
  have A1 : Hid (∀ w, Calls Try.prog 22 #[pt ox oy, pt ax ay, pt bx by_] w fun e w' => e = .returned (.int .i64 (aroundI ox oy ax ay bx by_)) ∧ Gr w w') := around_any ox oy ax ay bx by_ h0 h1 h2 h3 h4 h5
  have A2 : Hid (∀ w, Calls Try.prog 22 #[pt ox oy, pt bx by_, pt px py] w fun e w' => e = .returned (.int .i64 (aroundI ox oy bx by_ px py)) ∧ Gr w w') := around_any ox oy bx by_ px py h0 h1 h4 h5 h6 h7
  have A3 : Hid (∀ w, Calls Try.prog 22 #[pt ox oy, pt bx by_, pt ax ay] w fun e w' => e = .returned (.int .i64 (-aroundI ox oy ax ay bx by_)) ∧ Gr w w') := fun w => around_back ox oy ax ay bx by_ ▸ around_any ox oy bx by_ ax ay h0 h1 h4 h5 h2 h3 w
  have A4 : Hid (∀ w, Calls Try.prog 22 #[pt ox oy, pt ax ay, pt ax ay] w fun e w' => e = .returned (.int .i64 0) ∧ Gr w w') := fun w => around_self ox oy ax ay ▸ around_any ox oy ax ay ax ay h0 h1 h2 h3 h2 h3 w
  have A5 : Hid (∀ w, Calls Try.prog 22 #[pt ox oy, pt ax ay, pt px py] w fun e w' => e = .returned (.int .i64 (aroundI ox oy ax ay px py)) ∧ Gr w w') := around_any ox oy ax ay px py h0 h1 h2 h3 h6 h7
  have tb := around_bd ox oy ax ay bx by_
  generalize aroundI ox oy ax ay bx by_ = ab at *
  generalize aroundI ox oy bx by_ px py = bp at *
  generalize aroundI ox oy ax ay px py = ap at *
  have e64 : wrap64 (-ab) = -ab := by unfold wrap64; omega
  have cases3 : (decide (ab ≤ 0) = false ∧ decide (ab ≤ 0) = false ∧ decide (ab ≤ 0) = false) ∨ (decide (ab ≤ 0) = true ∧ decide (bp ≤ 0) = false ∧ decide (bp ≤ 0) = false) ∨ (decide (ab ≤ 0) = true ∧ decide (bp ≤ 0) = true ∧ decide (0 < ap) = false) := by
    simp only [decide_eq_true_eq, decide_eq_false_iff_not]
    by_cases h : ab ≤ 0
    · by_cases k : bp ≤ 0
      · have := tr h k; omega
      · omega
    · omega
  clear tr tb
  go_enter Try.func7, Try.ntmps7
  go_upto_region 1 with fail
  have hG : Gr w (w.alloc (.cells #[.int .i32 ox, .int .i32 oy, .int .i32 ax, .int .i32 ay, .int .i32 bx, .int .i32 by_, .int .i32 px, .int .i32 py] 25)) := (Gr.refl _).alloc _
  have F := FourIs.new w ox oy ax ay bx by_ px py
  generalize w.alloc (.cells #[.int .i32 ox, .int .i32 oy, .int .i32 ax, .int .i32 ay, .int .i32 bx, .int .i32 by_, .int .i32 px, .int .i32 py] 25) = W at *
  have x0 := F.c0
  have x1 := F.c1
  have x2 := F.c2
  have x3 := F.c3
  have x4 := F.c4
  have x5 := F.c5
  have x6 := F.c6
  have x7 := F.c7
  go_wp2_with fail
  refine (A1.out _).mono ?_
  rintro e v1 ⟨rfl, g⟩
  replace hG := hG.trans g
  replace F := F.gr g
  clear x0 x1 x2 x3 x4 x5 x6 x7
  clear g
  have x0 := F.c0
  have x1 := F.c1
  have x2 := F.c2
  have x3 := F.c3
  have x4 := F.c4
  have x5 := F.c5
  have x6 := F.c6
  have x7 := F.c7
  go_wp2_with fail
  refine (A2.out _).mono ?_
  rintro e v2 ⟨rfl, g⟩
  replace hG := hG.trans g
  replace F := F.gr g
  clear x0 x1 x2 x3 x4 x5 x6 x7
  clear g
  have x0 := F.c0
  have x1 := F.c1
  have x2 := F.c2
  have x3 := F.c3
  have x4 := F.c4
  have x5 := F.c5
  have x6 := F.c6
  have x7 := F.c7
  go_upto_region 3 with fail
  go_cut [57] (fun s w' => s = .bool false ∧ Gr v2 w')
  case first => as_aux_lemma =>
    replace hG := Gr.refl v2
    go_wp2_with fail
    refine (A3.out _).mono ?_
    rintro e v3 ⟨rfl, g⟩
    replace hG := hG.trans g
    replace F := F.gr g
    clear x0 x1 x2 x3 x4 x5 x6 x7
    clear g
    have x0 := F.c0
    have x1 := F.c1
    have x2 := F.c2
    have x3 := F.c3
    have x4 := F.c4
    have x5 := F.c5
    have x6 := F.c6
    have x7 := F.c7
    go_wp2_with fail
    refine (A4.out _).mono ?_
    rintro e v4 ⟨rfl, g⟩
    replace hG := hG.trans g
    replace F := F.gr g
    clear x0 x1 x2 x3 x4 x5 x6 x7
    clear g
    have x0 := F.c0
    have x1 := F.c1
    have x2 := F.c2
    have x3 := F.c3
    have x4 := F.c4
    have x5 := F.c5
    have x6 := F.c6
    have x7 := F.c7
    rcases cases3 with ⟨c1, c2, c3⟩ | ⟨c1, c2, c3⟩ | ⟨c1, c2, c3⟩
    · go_wp2
      go_meet
      case rel => exact ⟨rfl, hG⟩
    · go_wp2
      go_meet
      case rel => exact ⟨rfl, hG⟩
    · go_wp2_with fail
      refine (A5.out _).mono ?_
      rintro e v5 ⟨rfl, g⟩
      go_wp2
      go_meet
      case rel => exact ⟨rfl, hG.trans g⟩
  case rest => as_aux_lemma =>
    obtain ⟨rfl, g⟩ := hcut
    replace hG := hG.trans g
    replace F := F.gr g
    clear g cases3 A1 A2 A3 A4 A5 e64
    clear x0 x1 x2 x3 x4 x5 x6 x7
    have R := around_right ox oy ax ay
    have AR : Hid (ox + 1 ≤ 2147483647 → ∀ w, Calls Try.prog 22 #[pt ox oy, pt (ox + 1) oy, pt ax ay] w fun e w' => e = .returned (.int .i64 (aroundI ox oy (ox + 1) oy ax ay)) ∧ Gr w w') := fun h w => around_any ox oy (ox + 1) oy ax ay h0 h1 (by unfold in32 at *; omega) h1 h2 h3 w
    have w32 : ox + 1 ≤ 2147483647 → wrap32 (ox + 1) = ox + 1 := fun h => by unfold in32 at h0; unfold wrap32; omega
    have hox : ox ≤ 2147483647 := h0.2
    clear h0 h1 h2 h3 h4 h5 h6 h7
    generalize aroundI ox oy (ox + 1) oy ax ay = r at *
    have x0 := F.c0
    have x1 := F.c1
    have x2 := F.c2
    have x3 := F.c3
    have x4 := F.c4
    have x5 := F.c5
    have x6 := F.c6
    have x7 := F.c7
    go_upto_region 6 with fail
    have g : Gr wc (wc.alloc (.cells #[.int .i32 (wrap32 (ox + 1)), .int .i32 oy] 23)) := (Gr.refl _).alloc _
    have Z := TwoIs.new wc (wrap32 (ox + 1)) oy
    replace hG := hG.trans g
    replace F := F.gr g
    clear g x0 x1 x2 x3 x4 x5 x6 x7
    generalize wc.alloc (.cells #[.int .i32 (wrap32 (ox + 1)), .int .i32 oy] 23) = W8 at *
    have x0 := F.c0
    have x1 := F.c1
    have x2 := F.c2
    have x3 := F.c3
    have x4 := F.c4
    have x5 := F.c5
    have x6 := F.c6
    have x7 := F.c7
    by_cases hm : ox = 2147483647
    · have hm' : (ox == 2147483647) = true := by simp [hm]
      clear hm R AR w32 hox
      go_wp2
      go_ret
      exact ⟨rfl, hG⟩
    · have hm' : (ox == 2147483647) = false := by simp [hm]
      by_cases he : ax = ox ∧ ay = oy
      · obtain ⟨q1, q2⟩ := he
        have q1' : (ax == ox) = true := by simp [q1]
        have q2' : (ay == oy) = true := by simp [q2]
        clear q1 q2 hm R AR w32 hox
        go_wp2
        go_ret
        exact ⟨rfl, hG⟩
      · obtain ⟨R1, R2⟩ := R he
        have AR' : Hid (∀ w, Calls Try.prog 22 #[pt ox oy, pt (ox + 1) oy, pt ax ay] w fun e w' => e = .returned (.int .i64 r) ∧ Gr w w') := AR.out (by omega)
        rw [w32 (by omega)] at Z
        have R1' : decide (r ≤ 0) = true := decide_eq_true R1
        have hE : ((ay == oy) = true ∧ (r == 0) = decide (ox < ax)) ∨ ((ay == oy) = false ∧ (r == 0) = false) := by
          by_cases k : ay = oy
          · left
            refine ⟨by simp [k], ?_⟩
            by_cases k2 : ox < ax
            · rw [decide_eq_true k2]; simp [R2.mpr ⟨k, k2⟩]
            · rw [decide_eq_false k2]; simp only [beq_eq_false_iff_ne, ne_eq]; intro h; exact k2 (R2.mp h).2
          · right
            refine ⟨by simp [k], ?_⟩
            simp only [beq_eq_false_iff_ne, ne_eq]; intro h; exact k (R2.mp h).1
        have ne2 : ((ax == ox) = false ∧ (ax == ox) = false) ∨ ((ax == ox) = true ∧ (ay == oy) = false) := by
          by_cases k : ax = ox
          · right; refine ⟨by simp [k], ?_⟩; simp only [beq_eq_false_iff_ne, ne_eq]; intro q; exact he ⟨k, q⟩
          · left; simp [k]
        clear R1 R2 AR w32 hox he hm R
        go_cut [76] (fun s w' => s = .bool false ∧ w' = W8)
        case first =>
          rcases ne2 with ⟨n1, n2⟩ | ⟨n1, n2⟩
          · go_wp2
            go_meet
            case rel => exact ⟨rfl, rfl⟩
          · go_wp2
            go_meet
            case rel => exact ⟨rfl, rfl⟩
        case rest =>
          obtain ⟨rfl, rfl⟩ := hcut
          clear x0 x1 x2 x3 x4 x5 x6 x7 ne2
          go_upto_region 8 with fail
          have x0 := cell_gr F.c0
          have x1 := cell_gr F.c1
          have x2 := cell_gr F.c2
          have x3 := cell_gr F.c3
          have x4 := cell_gr F.c4
          have x5 := cell_gr F.c5
          have x6 := cell_gr F.c6
          have x7 := cell_gr F.c7
          have z0 := cell_gr Z.c0
          have z1 := cell_gr Z.c1
          rcases hE with ⟨n1, n2⟩ | ⟨n1, n2⟩
          · obtain ⟨E, e1⟩ : ∃ E, decide (ox < ax) = E := ⟨_, rfl⟩
            rw [e1] at n2
            refine wp_region_quiet_grown (by kernel_rfl) (by kernel_rfl) ?_
            repeat (go_big_quiet_step (first | (go_at_call 22; exact Calls.grown_of (AR'.out _))))
            refine wpQuiet_nil ?_
            intro _ hw'
            obtain ⟨⟨nq, osq⟩, hw''⟩ := hw'
            subst hw''
            go_wp2
            go_ret
            exact ⟨rfl, hG.trans ⟨nq, osq, rfl⟩⟩
          · refine wp_region_quiet_grown (by kernel_rfl) (by kernel_rfl) ?_
            repeat (go_big_quiet_step (first | (go_at_call 22; exact Calls.grown_of (AR'.out _))))
            refine wpQuiet_nil ?_
            intro _ hw'
            obtain ⟨⟨nq, osq⟩, hw''⟩ := hw'
            subst hw''
            go_wp2
            go_ret
            exact ⟨rfl, hG.trans ⟨nq, osq, rfl⟩⟩
end Go.Proofs.Ytclhkcpccocajaa
