/- The reference of ring: more, Touch. -/
import Derived.Test.YtgcofpfjdplopaaGreatR6a
import Derived.Lib.QuietBelow
namespace Go.Proofs.YtgcofpfjdplopaaGreat
section
open Go.RowKit Go.Shelf Go.Sort

def more6 (a b c : P2) : Bool := (sg6 (crs a b c) == 0) && (onP a b c || onP c a b)
set_option maxRecDepth 100000 in
set_option maxHeartbeats 4000000 in
theorem more_any (a b c : P2) (ha : lat a) (hb : lat b) (hc : lat c) (w : World) :
    Calls Tryz.prog 120 #[pt a.1 a.2, pt b.1 b.2, pt c.1 c.2] w fun e w' => e = .returned (.bool (more6 a b c)) ∧ Gr w w' := by
  have T : Hid (∀ w, Calls Tryz.prog 72 #[pt a.1 a.2, pt b.1 b.2, pt c.1 c.2] w fun e w' => e = .returned (.int .i64 (sg6 (crs a b c))) ∧ Gr w w') := fun w => turn6_any a b c ha hb hc w
  have X : Hid (∀ w, Calls Tryz.prog 31 #[pt a.1 a.2, pt b.1 b.2, pt c.1 c.2] w fun e w' => e = .returned (.bool (onP a b c)) ∧ Gr w w') := fun w => on6_any a b c ha hb hc w
  have Y : Hid (∀ w, Calls Tryz.prog 31 #[pt c.1 c.2, pt a.1 a.2, pt b.1 b.2] w fun e w' => e = .returned (.bool (onP c a b)) ∧ Gr w w') := fun w => on6_any c a b hc ha hb w
  have hv : Hid (more6 a b c = ((sg6 (crs a b c) == 0) && (onP a b c || onP c a b))) := (by exact rfl)
  have hG : Gr w (((w.alloc (.cells #[.int .i32 a.1, .int .i32 a.2] 28)).alloc (.cells #[.int .i32 b.1, .int .i32 b.2] 28)).alloc (.cells #[.int .i32 c.1, .int .i32 c.2] 28)) := (((Gr.refl _).alloc _).alloc _).alloc _
  have k0 : PtB (((w.alloc (.cells #[.int .i32 a.1, .int .i32 a.2] 28)).alloc (.cells #[.int .i32 b.1, .int .i32 b.2] 28)).alloc (.cells #[.int .i32 c.1, .int .i32 c.2] 28)) w.heap.size a := ((PtB.new w a).alloc _).alloc _
  have k1 : PtB (((w.alloc (.cells #[.int .i32 a.1, .int .i32 a.2] 28)).alloc (.cells #[.int .i32 b.1, .int .i32 b.2] 28)).alloc (.cells #[.int .i32 c.1, .int .i32 c.2] 28)) (w.heap.size + 1) b := by
    have := (PtB.new (w.alloc (.cells #[.int .i32 a.1, .int .i32 a.2] 28)) b).alloc (.cells #[.int .i32 c.1, .int .i32 c.2] 28)
    rwa [World.size_alloc] at this
  have k2 : PtB (((w.alloc (.cells #[.int .i32 a.1, .int .i32 a.2] 28)).alloc (.cells #[.int .i32 b.1, .int .i32 b.2] 28)).alloc (.cells #[.int .i32 c.1, .int .i32 c.2] 28)) (w.heap.size + 1 + 1) c := by
    have := PtB.new ((w.alloc (.cells #[.int .i32 a.1, .int .i32 a.2] 28)).alloc (.cells #[.int .i32 b.1, .int .i32 b.2] 28)) c
    rwa [World.size_alloc, World.size_alloc] at this
  generalize sg6 (crs a b c) = t at *
  generalize onP a b c = B1 at *
  generalize onP c a b = B2 at *
  obtain ⟨ax, ay⟩ := a
  obtain ⟨bx_, by_⟩ := b
  obtain ⟨cx, cy⟩ := c
  clear ha hb hc
  by_cases ht : t = 0
  · subst ht
    cases B1 with
    | true =>
      have hr : Hid (more6 (ax, ay) (bx_, by_) (cx, cy) = true) := by unfold Hid; rw [hv.out]; simp
      clear hv Y
      go_enter Tryz.func120, Tryz.ntmps120
      go_wp2_with (first | (go_at_call 72; refine (T.out _).mono ?_; rintro e w1 ⟨rfl, g1⟩; have x0 := (k0.gr g1).c0; have y0 := (k0.gr g1).c1; have x1 := (k1.gr g1).c0; have y1 := (k1.gr g1).c1; have x2 := (k2.gr g1).c0; have y2 := (k2.gr g1).c1) | (go_at_call 31; refine (X.out _).mono ?_; rintro e w2 ⟨rfl, g2⟩))
      go_ret
      exact ⟨by rw [hr.out]; rfl, (hG.trans g1).trans g2⟩
    | false =>
      have hr : Hid (more6 (ax, ay) (bx_, by_) (cx, cy) = B2) := by unfold Hid; rw [hv.out]; simp
      clear hv
      go_enter Tryz.func120, Tryz.ntmps120
      go_wp2_with (first | (go_at_call 72; refine (T.out _).mono ?_; rintro e w1 ⟨rfl, g1⟩; have x0 := (k0.gr g1).c0; have y0 := (k0.gr g1).c1; have x1 := (k1.gr g1).c0; have y1 := (k1.gr g1).c1; have x2 := (k2.gr g1).c0; have y2 := (k2.gr g1).c1) | (have g12 := g2; go_at_call 31; refine (Y.out _).mono ?_; rintro e w3 ⟨rfl, g3⟩) | (go_at_call 31; refine (X.out _).mono ?_; rintro e w2 ⟨rfl, g2⟩; have x0' := ((k0.gr g1).gr g2).c0; have y0' := ((k0.gr g1).gr g2).c1; have x1' := ((k1.gr g1).gr g2).c0; have y1' := ((k1.gr g1).gr g2).c1; have x2' := ((k2.gr g1).gr g2).c0; have y2' := ((k2.gr g1).gr g2).c1))
      go_ret
      exact ⟨by rw [hr.out]; rfl, ((hG.trans g1).trans g2).trans g3⟩
  · have ht' : (t == 0) = false := by simpa using ht
    have hr : Hid (more6 (ax, ay) (bx_, by_) (cx, cy) = false) := by unfold Hid; rw [hv.out, ht']; simp
    clear hv
    go_enter Tryz.func120, Tryz.ntmps120
    go_wp2_with (first | (go_at_call 72; refine (T.out _).mono ?_; rintro e w1 ⟨rfl, g1⟩))
    go_ret
    exact ⟨by rw [hr.out]; rfl, hG.trans g1⟩
end
end Go.Proofs.YtgcofpfjdplopaaGreat
