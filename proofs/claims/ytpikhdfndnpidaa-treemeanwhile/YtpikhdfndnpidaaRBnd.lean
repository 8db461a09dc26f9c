/- The contract of the reference's box around points: for every list what Bounds answers; the memory that was there is as it was. -/
import Derived.Test.YtpikhdfndnpidaaBnd
namespace Go.Proofs.Ytpikhdfndnpidaa
open Go.RowKit Go.Sort

theorem bndL_nil : bndL [] = (0, 0, 0, 0) := rfl
theorem bndL_one (l : List (Int × Int)) (h : 0 < l.length) : bndL (l.take (0 + 1)) = ((l.getD 0 (0, 0)).1, (l.getD 0 (0, 0)).2, (l.getD 0 (0, 0)).1, (l.getD 0 (0, 0)).2) := by
  cases l with
  | nil => simp at h
  | cons p r => rfl
theorem bndL_step (l : List (Int × Int)) (k : Nat) (h0 : 0 < k) (h : k < l.length) : bndL (l.take (k + 1)) = bndS (bndL (l.take k)) (l.getD k (0, 0)) := by
  obtain ⟨j, rfl⟩ : ∃ j, k = j + 1 := ⟨k - 1, by omega⟩
  exact bndL_take l j h

set_option maxRecDepth 20000 in
set_option maxHeartbeats 8000000 in
theorem rbounds_any (ao : Option Addr) (cap : Nat) (l : List (Int × Int)) (w : World) (hl : l.length ≤ 281474976710656) (hP : Pts w ao l) :
    Calls Try.prog 43 #[.slice ao l.length cap] w fun e w' => e = .returned (.tuple #[bxv (bndL l), .bool (decide (0 < l.length))]) ∧ Gr w w' := by
  have HP : Hid (Pts w ao l) := hP
  clear hP
  go_enter Try.func43, Try.ntmps43
  go_wp2
  have hG : Gr w ((w.alloc (.cells #[.int .i32 0, .int .i32 0, .int .i32 0, .int .i32 0] 36)).alloc (.cells #[.int .i32 0, .int .i32 0, .int .i32 0, .int .i32 0] 36)) := ((Gr.refl _).alloc _).alloc _
  have k0 : B4 ((w.alloc (.cells #[.int .i32 0, .int .i32 0, .int .i32 0, .int .i32 0] 36)).alloc (.cells #[.int .i32 0, .int .i32 0, .int .i32 0, .int .i32 0] 36)) w.heap.size (.int .i32 0) (.int .i32 0) (.int .i32 0) (.int .i32 0) := (B4.new w _ _ _ _).gr ((Gr.refl _).alloc _)
  have k1 : B4 ((w.alloc (.cells #[.int .i32 0, .int .i32 0, .int .i32 0, .int .i32 0] 36)).alloc (.cells #[.int .i32 0, .int .i32 0, .int .i32 0, .int .i32 0] 36)) (w.heap.size + 1) (.int .i32 0) (.int .i32 0) (.int .i32 0) (.int .i32 0) := by
    simpa using B4.new (w.alloc (.cells #[.int .i32 0, .int .i32 0, .int .i32 0, .int .i32 0] 36)) (.int .i32 0) (.int .i32 0) (.int .i32 0) (.int .i32 0)
  generalize (w.alloc (.cells #[.int .i32 0, .int .i32 0, .int .i32 0, .int .i32 0] 36)).alloc (.cells #[.int .i32 0, .int .i32 0, .int .i32 0, .int .i32 0] 36) = W at *
  go_loopw [5] (fun i wr => ∃ k : Nat, k ≤ l.length ∧ i = .int .i64 k ∧ Gr w wr ∧ B4 wr w.heap.size (.int .i32 0) (.int .i32 0) (.int .i32 0) (.int .i32 0) ∧
      B4 wr (w.heap.size + 1) (.int .i32 (bndL (l.take k)).1) (.int .i32 (bndL (l.take k)).2.1) (.int .i32 (bndL (l.take k)).2.2.1) (.int .i32 (bndL (l.take k)).2.2.2)) (fun i _ => l.length - (intOf i).toNat)
  case atStart => exact ⟨0, by omega, rfl, hG, k0, k1⟩
  case round =>
    clear hG k0 k1
    obtain ⟨k, hk, rfl, hG, k0, k1⟩ := hrel
    have hrel_lt := k1.lt
    by_cases hlt : k < l.length
    · obtain ⟨b, off, rfl, p0, p1⟩ := HP.out k hlt
      replace p0 := below_cell p0 hG.below
      replace p1 := below_cell p1 hG.below
      have H1 : Hid (k = 0 → bndL (l.take (k + 1)) = ((l.getD k (0, 0)).1, (l.getD k (0, 0)).2, (l.getD k (0, 0)).1, (l.getD k (0, 0)).2)) := fun h => by subst h; exact bndL_one l hlt
      have H2 : Hid (0 < k → bndL (l.take (k + 1)) = bndS (bndL (l.take k)) (l.getD k (0, 0))) := fun h => bndL_step l k h hlt
      unfold bndS at H2
      generalize (l.getD k (0, 0)).1 = X at *
      generalize (l.getD k (0, 0)).2 = Y at *
      generalize (bndL (l.take k)).1 = m0 at *
      generalize (bndL (l.take k)).2.1 = m1 at *
      generalize (bndL (l.take k)).2.2.1 = m2 at *
      generalize (bndL (l.take k)).2.2.2 = m3 at *
      go_upto_region 6 with fail
      have g1 : Gr wr (wr.alloc (.cells #[.int .i32 X, .int .i32 Y] 34)) := (Gr.refl _).alloc _
      have x0 : (wr.alloc (.cells #[.int .i32 X, .int .i32 Y] 34)).cell? ⟨wr.heap.size, 0, none⟩ = some (.int .i32 X) := by go_simp
      have x1 : (wr.alloc (.cells #[.int .i32 X, .int .i32 Y] 34)).cell? ⟨wr.heap.size, 1, none⟩ = some (.int .i32 Y) := by go_simp
      replace k0 := k0.gr g1
      replace k1 := k1.gr g1
      replace hG := hG.trans g1
      clear g1
      generalize wr.alloc (.cells #[.int .i32 X, .int .i32 Y] 34) = W1 at *
      have f0 := k1.f 0
      have f1 := k1.f 1
      have f2 := k1.f 2
      have f3 := k1.f 3
      have c0 := k1.c0
      have c1 := k1.c1
      have c2 := k1.c2
      have c3 := k1.c3
      by_cases hz : k = 0
      · have hz' : ((k : Int) == 0) = true := by simp [hz]
        have H := H1.out hz
        have H' : Hid (bndL (l.take (k + 1)) = (X, Y, X, Y)) := H
        clear H H1 H2 hz
        go_upto_region 8 with fail
        replace k1 := (((k1.s0 (.int .i32 X)).s1 (.int .i32 Y)).s2 (.int .i32 X)).s3 (.int .i32 Y)
        replace k0 := (((k0.other (p := ⟨w.heap.size + 1, 0, none⟩) (by simp) (.int .i32 X)).other (p := ⟨w.heap.size + 1, 1, none⟩) (by simp) (.int .i32 Y)).other (p := ⟨w.heap.size + 1, 2, none⟩) (by simp) (.int .i32 X)).other (p := ⟨w.heap.size + 1, 3, none⟩) (by simp) (.int .i32 Y)
        replace hG := (((hG.setCell (p := ⟨w.heap.size + 1, 0, none⟩) (by simp) (.int .i32 X)).setCell (p := ⟨w.heap.size + 1, 1, none⟩) (by simp) (.int .i32 Y)).setCell (p := ⟨w.heap.size + 1, 2, none⟩) (by simp) (.int .i32 X)).setCell (p := ⟨w.heap.size + 1, 3, none⟩) (by simp) (.int .i32 Y)
        have far : ∀ (p : Addr) (a : Addr) (z : Value) (V : World), p.block ≠ a.block → (V.setCell p z).cell? a = V.cell? a := fun p a z V h => World.cell?_setCell_far V p a z (by omega)
        replace x0 : ((((W1.setCell ⟨w.heap.size + 1, 0, none⟩ (.int .i32 X)).setCell ⟨w.heap.size + 1, 1, none⟩ (.int .i32 Y)).setCell ⟨w.heap.size + 1, 2, none⟩ (.int .i32 X)).setCell ⟨w.heap.size + 1, 3, none⟩ (.int .i32 Y)).cell? ⟨wr.heap.size, 0, none⟩ = some (.int .i32 X) := by
          rw [far _ _ _ _ (by simp only []; omega), far _ _ _ _ (by simp only []; omega), far _ _ _ _ (by simp only []; omega), far _ _ _ _ (by simp only []; omega)]; exact x0
        replace x1 : ((((W1.setCell ⟨w.heap.size + 1, 0, none⟩ (.int .i32 X)).setCell ⟨w.heap.size + 1, 1, none⟩ (.int .i32 Y)).setCell ⟨w.heap.size + 1, 2, none⟩ (.int .i32 X)).setCell ⟨w.heap.size + 1, 3, none⟩ (.int .i32 Y)).cell? ⟨wr.heap.size, 1, none⟩ = some (.int .i32 Y) := by
          rw [far _ _ _ _ (by simp only []; omega), far _ _ _ _ (by simp only []; omega), far _ _ _ _ (by simp only []; omega), far _ _ _ _ (by simp only []; omega)]; exact x1
        clear f0 f1 f2 f3 c0 c1 c2 c3 far
        generalize (((W1.setCell ⟨w.heap.size + 1, 0, none⟩ (.int .i32 X)).setCell ⟨w.heap.size + 1, 1, none⟩ (.int .i32 Y)).setCell ⟨w.heap.size + 1, 2, none⟩ (.int .i32 X)).setCell ⟨w.heap.size + 1, 3, none⟩ (.int .i32 Y) = W2 at *
        have c0 := k1.c0
        have c1 := k1.c1
        have c2 := k1.c2
        have c3 := k1.c3
        have nX : decide (X < X) = false := by simp
        have nY : decide (Y < Y) = false := by simp
        go_wp2
        go_roundw
        case rel => exact ⟨k + 1, by omega, by go_num, hG, k0, by rw [H'.out]; exact k1⟩
        case measure => simp [intOf]; omega
      · have hz' : ((k : Int) == 0) = false := by simp [hz]
        have H := H2.out (by omega)
        clear H1 H2 hz
        have e0 : (decide (X < m0) = true ∧ minI m0 X = X) ∨ (decide (X < m0) = false ∧ minI m0 X = m0) := by unfold minI; simp only [decide_eq_true_eq, decide_eq_false_iff_not]; split <;> omega
        have e1 : (decide (Y < m1) = true ∧ minI m1 Y = Y) ∨ (decide (Y < m1) = false ∧ minI m1 Y = m1) := by unfold minI; simp only [decide_eq_true_eq, decide_eq_false_iff_not]; split <;> omega
        have e2 : (decide (m2 < X) = true ∧ maxI m2 X = X) ∨ (decide (m2 < X) = false ∧ maxI m2 X = m2) := by unfold maxI; simp only [decide_eq_true_eq, decide_eq_false_iff_not]; split <;> omega
        have e3 : (decide (m3 < Y) = true ∧ maxI m3 Y = Y) ∨ (decide (m3 < Y) = false ∧ maxI m3 Y = m3) := by unfold maxI; simp only [decide_eq_true_eq, decide_eq_false_iff_not]; split <;> omega
        rcases e0 with ⟨d0, q0⟩ | ⟨d0, q0⟩ <;> rcases e1 with ⟨d1, q1⟩ | ⟨d1, q1⟩ <;> rcases e2 with ⟨d2, q2⟩ | ⟨d2, q2⟩ <;> rcases e3 with ⟨d3, q3⟩ | ⟨d3, q3⟩
        all_goals
          rw [q0, q1, q2, q3] at H
          have H' : Hid (bndL (l.take (k + 1)) = _) := H
          clear H q0 q1 q2 q3
          go_wp2
          go_roundw
          case rel =>
            refine ⟨k + 1, by omega, by go_num, ?_, ?_, ?_⟩
            · repeat (with_reducible refine Gr.setCell ?_ (by simp) _)
              exact hG
            · repeat (with_reducible refine B4.other ?_ (by simp) _)
              exact k0
            · rw [H'.out]
              dsimp only
              first | with_reducible exact ((((k1.s0 _).s1 _).s2 _).s3 _) | with_reducible exact (((k1.s0 _).s1 _).s2 _) | with_reducible exact (((k1.s0 _).s1 _).s3 _) | with_reducible exact ((k1.s0 _).s1 _) | with_reducible exact (((k1.s0 _).s2 _).s3 _) | with_reducible exact ((k1.s0 _).s2 _) | with_reducible exact ((k1.s0 _).s3 _) | with_reducible exact (k1.s0 _) | with_reducible exact (((k1.s1 _).s2 _).s3 _) | with_reducible exact ((k1.s1 _).s2 _) | with_reducible exact ((k1.s1 _).s3 _) | with_reducible exact (k1.s1 _) | with_reducible exact ((k1.s2 _).s3 _) | with_reducible exact (k1.s2 _) | with_reducible exact (k1.s3 _) | with_reducible exact k1
          case measure => simp [intOf]; omega
    · have hkn : k = l.length := by omega
      rw [hkn, List.take_length] at k1
      have y0 := k1.c0
      have y1 := k1.c1
      have y2 := k1.c2
      have y3 := k1.c3
      have z0 := k0.f 0
      have z1 := k0.f 1
      have z2 := k0.f 2
      have z3 := k0.f 3
      have u0 := k0.c0
      have u1 := k0.c1
      have u2 := k0.c2
      have u3 := k0.c3
      have t0 := (k0.s0 (.int .i32 (bndL l).1)).c0
      have t1 := ((k0.s0 (.int .i32 (bndL l).1)).s1 (.int .i32 (bndL l).2.1)).c1
      have t2 := (((k0.s0 (.int .i32 (bndL l).1)).s1 (.int .i32 (bndL l).2.1)).s2 (.int .i32 (bndL l).2.2.1)).c2
      have t3 := ((((k0.s0 (.int .i32 (bndL l).1)).s1 (.int .i32 (bndL l).2.1)).s2 (.int .i32 (bndL l).2.2.1)).s3 (.int .i32 (bndL l).2.2.2)).c3
      clear k0 k1
      go_wp2
      refine bodyPost_ret (v := .tuple #[bxv (bndL l), .bool (decide (0 < l.length))]) (by simp [results, Try.results43, go_sem, t0, t1, t2, t3]) rfl ⟨rfl, ?_⟩
      exact (((hG.setCell (by simp) _).setCell (by simp) _).setCell (by simp) _).setCell (by simp) _
end Go.Proofs.Ytpikhdfndnpidaa
