/- Contract of endNear: of two segments an end near the other one. -/
import Derived.Test.YtgcofpfjdplopaaGreatSg7
import Derived.Test.YtgcofpfjdplopaaGreatSg5
namespace Go.Proofs.YtgcofpfjdplopaaGreat
section
open Go.RowKit Go.Sort

def nj (a b c d : P2) (r : Int) : Nat → Bool
  | 0 => nearB a c d r
  | 1 => nearB b d c r
  | 2 => nearB c a b r
  | _ => nearB d b a r
def endN (a b c d : P2) (r : Int) : Bool := nj a b c d r 0 || nj a b c d r 1 || nj a b c d r 2 || nj a b c d r 3
set_option maxRecDepth 20000 in
set_option maxHeartbeats 2000000 in
theorem endNear_any (a b c d : P2) (r : Int) (la : lat a) (lb : lat b) (lc : lat c) (ld : lat d) (h0 : 0 ≤ r) (w : World) :
    Calls Tryz.prog 207 #[endv a b c d, .int .i64 r] w fun e w' => e = .returned (.bool (endN a b c d r)) ∧ Gr w w' := by
  have E : Hid (endN a b c d r = (nj a b c d r 0 || nj a b c d r 1 || nj a b c d r 2 || nj a b c d r 3)) := rfl
  obtain ⟨ax, ay⟩ := a
  obtain ⟨bx, by_⟩ := b
  obtain ⟨cx, cy⟩ := c
  obtain ⟨dx, dy⟩ := d
  show Calls Tryz.prog 207 #[.agg #[.int .i32 ax, .int .i32 ay, .int .i32 bx, .int .i32 by_, .int .i32 cx, .int .i32 cy, .int .i32 dx, .int .i32 dy], .int .i64 r] w _
  have hE : E8 (w.alloc (.cells #[.int .i32 ax, .int .i32 ay, .int .i32 bx, .int .i32 by_, .int .i32 cx, .int .i32 cy, .int .i32 dx, .int .i32 dy] 178)) w.heap.size (.int .i32 ax) (.int .i32 ay) (.int .i32 bx) (.int .i32 by_) (.int .i32 cx) (.int .i32 cy) (.int .i32 dx) (.int .i32 dy) := E8.new w (.int .i32 ax) (.int .i32 ay) (.int .i32 bx) (.int .i32 by_) (.int .i32 cx) (.int .i32 cy) (.int .i32 dx) (.int .i32 dy)
  have hG : Gr w (w.alloc (.cells #[.int .i32 ax, .int .i32 ay, .int .i32 bx, .int .i32 by_, .int .i32 cx, .int .i32 cy, .int .i32 dx, .int .i32 dy] 178)) := (Gr.refl _).alloc _
  go_enter Tryz.func207, Tryz.ntmps207
  go_wp2
  generalize (w.alloc (.cells #[.int .i32 ax, .int .i32 ay, .int .i32 bx, .int .i32 by_, .int .i32 cx, .int .i32 cy, .int .i32 dx, .int .i32 dy] 178)) = W at *
  go_loopw [8] (fun t wr => ∃ k : Nat, k ≤ 4 ∧ t = .int .i64 k ∧ (∀ j, j < k → nj (ax, ay) (bx, by_) (cx, cy) (dx, dy) r j = false) ∧ E8 wr w.heap.size (.int .i32 ax) (.int .i32 ay) (.int .i32 bx) (.int .i32 by_) (.int .i32 cx) (.int .i32 cy) (.int .i32 dx) (.int .i32 dy) ∧ Gr w wr) (fun t _ => (4 - intOf t).toNat)
  case atStart => exact ⟨0, by omega, rfl, fun j hj => by omega, hE, hG⟩
  case round =>
    clear hE hG
    obtain ⟨k, hk, rfl, hall, hE, hG⟩ := hrel
    by_cases h4 : k = 4
    · subst h4
      go_wp2
      go_ret
      exact ⟨by rw [E.out, hall 0 (by omega), hall 1 (by omega), hall 2 (by omega), hall 3 (by omega)]; rfl, hG⟩
    · have hk4 : k = 0 ∨ k = 1 ∨ k = 2 ∨ k = 3 := by omega
      clear h4 hk
      rcases hk4 with rfl | rfl | rfl | rfl
      · have NR := hid' (near_any (ax, ay) (cx, cy) (dx, dy) r la lc ld h0)
        have hv : nj (ax, ay) (bx, by_) (cx, cy) (dx, dy) r 0 = nearB (ax, ay) (cx, cy) (dx, dy) r := rfl
        generalize nearB (ax, ay) (cx, cy) (dx, dy) r = B at *
        have k9 : TwoIs (wr.alloc (.cells #[.int .i32 ax, .int .i32 ay] 28)) wr.heap.size ax ay := TwoIs.new wr ax ay
        have g1 := (Gr.refl wr).alloc (.cells #[.int .i32 ax, .int .i32 ay] 28)
        have hx := ix0 ax ay bx by_ cx cy dx dy
        replace hE := hE.gr g1
        replace hG := hG.trans g1
        have b2 : bits .xor .i64 0 2 = 2 := by kernel_rfl
        have b3 : bits .xor .i64 0 3 = 3 := by kernel_rfl
        go_upto_region 4 with fail
        generalize wr.alloc (.cells #[.int .i32 ax, .int .i32 ay] 28) = W at *
        generalize wr.heap.size = X9 at *
        have x0 := cell_gr k9.c0
        have x1 := cell_gr k9.c1
        have y0 := cell_gr hE.c0
        have y1 := cell_gr hE.c1
        have y2 := cell_gr hE.c2
        have y3 := cell_gr hE.c3
        have y4 := cell_gr hE.c4
        have y5 := cell_gr hE.c5
        have y6 := cell_gr hE.c6
        have y7 := cell_gr hE.c7
        refine wp_region_quiet_grown (by kernel_rfl) (by kernel_rfl) ?_
        repeat (go_big_quiet_step (first | (go_at_call 198; exact Calls.grown_of (NR.out _))))
        refine wpQuiet_nil ?_
        intro _ hw'
        obtain ⟨⟨nq, osq⟩, hw''⟩ := hw'
        subst hw''
        have g : Gr W (grow (W.drewN nq) osq) := ⟨nq, osq, rfl⟩
        replace hE := hE.gr g
        replace hG := hG.trans g
        clear x0 x1 y0 y1 y2 y3 y4 y5 y6 y7 NR hx k9 g g1
        generalize grow (W.drewN nq) osq = W1 at *
        cases B with
        | true =>
          go_wp2
          go_ret
          exact ⟨by rw [E.out, hv]; simp, hG⟩
        | false =>
          go_wp2
          go_roundw
          case rel => exact ⟨1, by omega, by go_num, fun j hj => (by rcases Nat.lt_or_eq_of_le (Nat.le_of_lt_succ hj) with q | q; exact hall j q; exact q ▸ hv), hE, hG⟩
          case measure => simp [intOf]
      · have NR := hid' (near_any (bx, by_) (dx, dy) (cx, cy) r lb ld lc h0)
        have hv : nj (ax, ay) (bx, by_) (cx, cy) (dx, dy) r 1 = nearB (bx, by_) (dx, dy) (cx, cy) r := rfl
        generalize nearB (bx, by_) (dx, dy) (cx, cy) r = B at *
        have k9 : TwoIs (wr.alloc (.cells #[.int .i32 bx, .int .i32 by_] 28)) wr.heap.size bx by_ := TwoIs.new wr bx by_
        have g1 := (Gr.refl wr).alloc (.cells #[.int .i32 bx, .int .i32 by_] 28)
        have hx := ix1 ax ay bx by_ cx cy dx dy
        replace hE := hE.gr g1
        replace hG := hG.trans g1
        have b2 : bits .xor .i64 1 2 = 3 := by kernel_rfl
        have b3 : bits .xor .i64 1 3 = 2 := by kernel_rfl
        go_upto_region 4 with fail
        generalize wr.alloc (.cells #[.int .i32 bx, .int .i32 by_] 28) = W at *
        generalize wr.heap.size = X9 at *
        have x0 := cell_gr k9.c0
        have x1 := cell_gr k9.c1
        have y0 := cell_gr hE.c0
        have y1 := cell_gr hE.c1
        have y2 := cell_gr hE.c2
        have y3 := cell_gr hE.c3
        have y4 := cell_gr hE.c4
        have y5 := cell_gr hE.c5
        have y6 := cell_gr hE.c6
        have y7 := cell_gr hE.c7
        refine wp_region_quiet_grown (by kernel_rfl) (by kernel_rfl) ?_
        repeat (go_big_quiet_step (first | (go_at_call 198; exact Calls.grown_of (NR.out _))))
        refine wpQuiet_nil ?_
        intro _ hw'
        obtain ⟨⟨nq, osq⟩, hw''⟩ := hw'
        subst hw''
        have g : Gr W (grow (W.drewN nq) osq) := ⟨nq, osq, rfl⟩
        replace hE := hE.gr g
        replace hG := hG.trans g
        clear x0 x1 y0 y1 y2 y3 y4 y5 y6 y7 NR hx k9 g g1
        generalize grow (W.drewN nq) osq = W1 at *
        cases B with
        | true =>
          go_wp2
          go_ret
          exact ⟨by rw [E.out, hv]; simp, hG⟩
        | false =>
          go_wp2
          go_roundw
          case rel => exact ⟨2, by omega, by go_num, fun j hj => (by rcases Nat.lt_or_eq_of_le (Nat.le_of_lt_succ hj) with q | q; exact hall j q; exact q ▸ hv), hE, hG⟩
          case measure => simp [intOf]
      · have NR := hid' (near_any (cx, cy) (ax, ay) (bx, by_) r lc la lb h0)
        have hv : nj (ax, ay) (bx, by_) (cx, cy) (dx, dy) r 2 = nearB (cx, cy) (ax, ay) (bx, by_) r := rfl
        generalize nearB (cx, cy) (ax, ay) (bx, by_) r = B at *
        have k9 : TwoIs (wr.alloc (.cells #[.int .i32 cx, .int .i32 cy] 28)) wr.heap.size cx cy := TwoIs.new wr cx cy
        have g1 := (Gr.refl wr).alloc (.cells #[.int .i32 cx, .int .i32 cy] 28)
        have hx := ix2 ax ay bx by_ cx cy dx dy
        replace hE := hE.gr g1
        replace hG := hG.trans g1
        have b2 : bits .xor .i64 2 2 = 0 := by kernel_rfl
        have b3 : bits .xor .i64 2 3 = 1 := by kernel_rfl
        go_upto_region 4 with fail
        generalize wr.alloc (.cells #[.int .i32 cx, .int .i32 cy] 28) = W at *
        generalize wr.heap.size = X9 at *
        have x0 := cell_gr k9.c0
        have x1 := cell_gr k9.c1
        have y0 := cell_gr hE.c0
        have y1 := cell_gr hE.c1
        have y2 := cell_gr hE.c2
        have y3 := cell_gr hE.c3
        have y4 := cell_gr hE.c4
        have y5 := cell_gr hE.c5
        have y6 := cell_gr hE.c6
        have y7 := cell_gr hE.c7
        refine wp_region_quiet_grown (by kernel_rfl) (by kernel_rfl) ?_
        repeat (go_big_quiet_step (first | (go_at_call 198; exact Calls.grown_of (NR.out _))))
        refine wpQuiet_nil ?_
        intro _ hw'
        obtain ⟨⟨nq, osq⟩, hw''⟩ := hw'
        subst hw''
        have g : Gr W (grow (W.drewN nq) osq) := ⟨nq, osq, rfl⟩
        replace hE := hE.gr g
        replace hG := hG.trans g
        clear x0 x1 y0 y1 y2 y3 y4 y5 y6 y7 NR hx k9 g g1
        generalize grow (W.drewN nq) osq = W1 at *
        cases B with
        | true =>
          go_wp2
          go_ret
          exact ⟨by rw [E.out, hv]; simp, hG⟩
        | false =>
          go_wp2
          go_roundw
          case rel => exact ⟨3, by omega, by go_num, fun j hj => (by rcases Nat.lt_or_eq_of_le (Nat.le_of_lt_succ hj) with q | q; exact hall j q; exact q ▸ hv), hE, hG⟩
          case measure => simp [intOf]
      · have NR := hid' (near_any (dx, dy) (bx, by_) (ax, ay) r ld lb la h0)
        have hv : nj (ax, ay) (bx, by_) (cx, cy) (dx, dy) r 3 = nearB (dx, dy) (bx, by_) (ax, ay) r := rfl
        generalize nearB (dx, dy) (bx, by_) (ax, ay) r = B at *
        have k9 : TwoIs (wr.alloc (.cells #[.int .i32 dx, .int .i32 dy] 28)) wr.heap.size dx dy := TwoIs.new wr dx dy
        have g1 := (Gr.refl wr).alloc (.cells #[.int .i32 dx, .int .i32 dy] 28)
        have hx := ix3 ax ay bx by_ cx cy dx dy
        replace hE := hE.gr g1
        replace hG := hG.trans g1
        have b2 : bits .xor .i64 3 2 = 1 := by kernel_rfl
        have b3 : bits .xor .i64 3 3 = 0 := by kernel_rfl
        go_upto_region 4 with fail
        generalize wr.alloc (.cells #[.int .i32 dx, .int .i32 dy] 28) = W at *
        generalize wr.heap.size = X9 at *
        have x0 := cell_gr k9.c0
        have x1 := cell_gr k9.c1
        have y0 := cell_gr hE.c0
        have y1 := cell_gr hE.c1
        have y2 := cell_gr hE.c2
        have y3 := cell_gr hE.c3
        have y4 := cell_gr hE.c4
        have y5 := cell_gr hE.c5
        have y6 := cell_gr hE.c6
        have y7 := cell_gr hE.c7
        refine wp_region_quiet_grown (by kernel_rfl) (by kernel_rfl) ?_
        repeat (go_big_quiet_step (first | (go_at_call 198; exact Calls.grown_of (NR.out _))))
        refine wpQuiet_nil ?_
        intro _ hw'
        obtain ⟨⟨nq, osq⟩, hw''⟩ := hw'
        subst hw''
        have g : Gr W (grow (W.drewN nq) osq) := ⟨nq, osq, rfl⟩
        replace hE := hE.gr g
        replace hG := hG.trans g
        clear x0 x1 y0 y1 y2 y3 y4 y5 y6 y7 NR hx k9 g g1
        generalize grow (W.drewN nq) osq = W1 at *
        cases B with
        | true =>
          go_wp2
          go_ret
          exact ⟨by rw [E.out, hv]; simp, hG⟩
        | false =>
          go_wp2
          go_roundw
          case rel => exact ⟨4, by omega, by go_num, fun j hj => (by rcases Nat.lt_or_eq_of_le (Nat.le_of_lt_succ hj) with q | q; exact hall j q; exact q ▸ hv), hE, hG⟩
          case measure => simp [intOf]
end
end Go.Proofs.YtgcofpfjdplopaaGreat
