/- The place above one, and the first of those below it. -/
import Derived.Test.YtaapdkjmlplhgaaHm
set_option linter.unusedSimpArgs false
set_option linter.unusedVariables false
namespace Go.Proofs.Ytaapdkjmlplhgaa
open Go.RowKit Go.Sort Go.Shelf Go.Maps

theorem above_any (i : Nat) (hi : i ≤ 10000) (w : World) : Calls Try.prog 46 #[.int .i64 i] w fun e w' => e = .returned (.int .i64 (((i : Int) + 1) / 2 - 1)) ∧ w' = w := by
  have e1 : wrap64 ((i : Int) + 1) = (i : Int) + 1 := by unfold wrap64; omega
  have e2 : wrap64 (((i : Int) + 1) / 2) = ((i : Int) + 1) / 2 := by unfold wrap64; omega
  have e3 : wrap64 (((i : Int) + 1) / 2 - 1) = ((i : Int) + 1) / 2 - 1 := by unfold wrap64; omega
  have e4 : ((i : Int) + 1).tdiv 2 = ((i : Int) + 1) / 2 := Int.tdiv_eq_ediv_of_nonneg (by omega)
  go_enter Try.func46, Try.ntmps46
  go_wp2
  go_ret
  exact ⟨rfl, rfl⟩
theorem lt_cf {x y : Du} : cfD x y < 0 ↔ ltD x y = true := by
  have := cfD_lt x y
  rw [← this]
  simp
set_option maxHeartbeats 4000000 in
theorem below_any (h pb mb g cp : Nat) (l : List Du) (s : Nat) (m : Pf) (i : Nat) (w : World) (H : Hs w h pb mb g cp l s m) (hi : i ≤ 5000) (hl : l.length ≤ 5000) :
    Calls Try.prog 48 #[.pointer (some ⟨h, 0, none⟩), .int .i64 i] w fun e w' => e = .returned (.tuple #[.int .i64 (dn l i : Nat), .bool (decide (dn l i < l.length))]) ∧ Gr w w' := by
  have c0 := cell_gr (H.heap.at 0)
  have c1 := cell_gr (H.heap.at 1)
  obtain ⟨d, hd⟩ : ∃ d, d = dn l i := ⟨_, rfl⟩
  rw [← hd]
  unfold dn at hd
  have hdl : d ≤ 2 * i + 1 + 1 := by split at hd <;> omega
  by_cases hbl : 2 * i + 1 + 1 < l.length
  · have hd2 : decide (2 * (i : Int) + 1 + 1 < (l.length : Int)) = true := decide_eq_true (by omega)
    have hd3 : 2 * (i : Int) + 1 + 1 < (l.length : Int) := by omega
    have hd4 : 2 * (i : Int) + 1 < (l.length : Int) := by omega
    obtain ⟨p0, p1, p2⟩ := H.row.at.cell (show 2 * i + 1 < l.length by omega)
    obtain ⟨q0, q1, q2⟩ := H.row.at.cell hbl
    replace p0 := cell_gr p0
    replace p1 := cell_gr p1
    replace p2 := cell_gr p2
    replace q0 := cell_gr q0
    replace q1 := cell_gr q1
    replace q2 := cell_gr q2
    generalize l.getD (2 * i + 1) (0, 0, 0) = x at *
    generalize l.getD (2 * i + 1 + 1) (0, 0, 0) = y at *
    have OR : Hid (∀ n os, Calls Try.prog 21 #[dV y, dV x] (grow (w.drewN n) os) fun e w' => e = .returned (.int .i64 (cfD y x)) ∧ ∃ p : GrownBy, w' = grow (w.drewN p.n) p.os) := fun n os => calmG n os (order_any y x _)
    have hlt := lt_cf (x := y) (y := x)
    generalize cfD y x = c at *
    have hdc : Hid (d = if c < 0 then 2 * i + 1 + 1 else 2 * i + 1) := by
      have : (2 * i + 1 + 1 < l.length ∧ ltD y x = true) ↔ c < 0 := ⟨fun h => hlt.2 h.2, fun h => ⟨hbl, hlt.1 h⟩⟩
      show d = _
      rw [hd]
      simp only [this]
    clear hd hlt hdl
    obtain ⟨xa, xo, xf⟩ := x
    obtain ⟨ya, yo, yf⟩ := y
    dsimp only at p0 p1 p2 q0 q1 q2
    have g0 := hid0 (Gr.refl w)
    by_cases hc : c < 0
    · have hcd : decide (c < 0) = true := decide_eq_true hc
      have hdb : d = 2 * i + 1 + 1 := by have := hdc.out; rw [if_pos hc] at this; exact this
      subst hdb
      clear hdc
      go_enter Try.func48, Try.ntmps48
      go_upto_region 2 with fail
      refine wp_region_quiet_grown (by kernel_rfl) (by kernel_rfl) ?_
      repeat (go_big_quiet_step (exact OR.out _ _))
      refine wpQuiet_nil ?_
      intro _ hw'
      obtain ⟨⟨nq, osq⟩, hw''⟩ := hw'
      subst hw''
      have gg : Gr w (grow (w.drewN nq) osq) := ⟨nq, osq, rfl⟩
      have c2 := fun n => below_cell (c0 nq osq) ((Gr.refl (grow (w.drewN nq) osq)).drewN n).below
      replace gg := hid0 gg
      clear c0 c1 p0 p1 p2 q0 q1 q2 OR hd2
      generalize grow (w.drewN nq) osq = W1 at *
      go_wp2
      go_quiet (fail)
      go_wp2
      go_ret2
      refine ⟨?_, gg.out.drewN _⟩
      rw [show ((2 * i + 1 + 1 : Nat) : Int) = 2 * (i : Int) + 1 + 1 by omega, decide_eq_true hbl]
      rfl
    · have hcd : decide (c < 0) = false := decide_eq_false hc
      have hdb : d = 2 * i + 1 := by have := hdc.out; rw [if_neg hc] at this; exact this
      subst hdb
      clear hdc
      go_enter Try.func48, Try.ntmps48
      go_upto_region 2 with fail
      refine wp_region_quiet_grown (by kernel_rfl) (by kernel_rfl) ?_
      repeat (go_big_quiet_step (exact OR.out _ _))
      refine wpQuiet_nil ?_
      intro _ hw'
      obtain ⟨⟨nq, osq⟩, hw''⟩ := hw'
      subst hw''
      have gg : Gr w (grow (w.drewN nq) osq) := ⟨nq, osq, rfl⟩
      have c2 := fun n => below_cell (c0 nq osq) ((Gr.refl (grow (w.drewN nq) osq)).drewN n).below
      replace gg := hid0 gg
      clear c0 c1 p0 p1 p2 q0 q1 q2 OR hd2
      generalize grow (w.drewN nq) osq = W1 at *
      go_wp2
      go_quiet (fail)
      go_wp2
      go_ret2
      refine ⟨?_, gg.out.drewN _⟩
      rw [show ((2 * i + 1 : Nat) : Int) = 2 * (i : Int) + 1 by omega, decide_eq_true (show 2 * i + 1 < l.length by omega)]
      rfl
  · have hd2 : decide (2 * (i : Int) + 1 + 1 < (l.length : Int)) = false := decide_eq_false (by omega)
    have hd3 : ¬ 2 * (i : Int) + 1 + 1 < (l.length : Int) := by omega
    have hdb : d = 2 * i + 1 := by rw [hd, if_neg (fun h => hbl h.1)]
    subst hdb
    clear hd hdl
    have OR : Hid True := trivial
    go_enter Try.func48, Try.ntmps48
    go_upto_region 2 with fail
    refine wp_region_quiet_grown (by kernel_rfl) (by kernel_rfl) ?_
    repeat (go_big_quiet_step (fail))
    refine wpQuiet_nil ?_
    intro _ hw'
    obtain ⟨⟨nq, osq⟩, hw''⟩ := hw'
    subst hw''
    have gg : Gr w (grow (w.drewN nq) osq) := ⟨nq, osq, rfl⟩
    have c2 := fun n => below_cell (c0 nq osq) ((Gr.refl (grow (w.drewN nq) osq)).drewN n).below
    replace gg := hid0 gg
    clear c0 c1 OR hd2
    generalize grow (w.drewN nq) osq = W1 at *
    go_wp2
    go_quiet (fail)
    go_wp2
    go_ret2
    refine ⟨?_, gg.out.drewN _⟩
    rw [show ((2 * i + 1 : Nat) : Int) = 2 * (i : Int) + 1 by omega, show decide (2 * (i : Int) + 1 < (l.length : Int)) = decide (2 * i + 1 < l.length) from decide_eq_decide.2 (by omega)]
    rfl
end Go.Proofs.Ytaapdkjmlplhgaa
