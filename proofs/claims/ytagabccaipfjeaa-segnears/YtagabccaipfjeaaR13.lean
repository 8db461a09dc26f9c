/- Contract of the reference's along: where along a segment a point of its line is. -/
import Derived.Test.YtagabccaipfjeaaR12
namespace Go.Proofs.Ytagabccaipfjeaa
open Go.RowKit Go.Sort

theorem S6.call {a0 a1 a2 a3 a4 a5 : Addr} {x0 x1 x2 x3 x4 x5 : Value} {w w' : World} (h : S6 a0 a1 a2 a3 a4 a5 x0 x1 x2 x3 x4 x5 w) (g : Below w.heap.size w w') : S6 a0 a1 a2 a3 a4 a5 x0 x1 x2 x3 x4 x5 w' :=
  ⟨below_cell h.1 g, below_cell h.2.1 g, below_cell h.2.2.1 g, below_cell h.2.2.2.1 g, below_cell h.2.2.2.2.1 g, below_cell h.2.2.2.2.2 g⟩
def alN (P D : Int) : Int := if D < 0 then -P else P
/-- Where a point is: the way along x, or, if there is none, along y. -/
def alP (a b p : P2) : Int := if a.1 ≠ b.1 then p.1 - a.1 else p.2 - a.2
def alD (a b : P2) : Int := if a.1 ≠ b.1 then b.1 - a.1 else b.2 - a.2
set_option maxRecDepth 20000 in
set_option maxHeartbeats 2000000 in
theorem along_rt (a b p : P2) (w : World) (ha : ins a) (hb : ins b) (hp : ins p) :
    Calls Try.prog 41 #[ptv a, ptv b, ptv p] w fun e w' => ∃ z, e = .returned z ∧ Rt w' z (alN (alP a b p) (alD a b)) (absI (alD a b)) 4 ∧ Below w.heap.size w w' := by
  obtain ⟨ax, ay⟩ := a
  obtain ⟨bx, by_⟩ := b
  obtain ⟨px, py⟩ := p
  obtain ⟨i1, i2⟩ := ha
  obtain ⟨i3, i4⟩ := hb
  obtain ⟨i5, i6⟩ := hp
  simp only at i1 i2 i3 i4 i5 i6
  have hd1 := dif64 i5 i1
  have hd2 := dif64 i3 i1
  have hd3 := dif64 i6 i2
  have hd4 := dif64 i4 i2
  have e1 := w64_in i1
  have e2 := w64_in i2
  have e3 := w64_in i3
  have e4 := w64_in i4
  have e5 := w64_in i5
  have e6 := w64_in i6
  have f1 := w64_dif i3 i1
  have f2 := w64_dif i4 i2
  have f3 := w64_dif i5 i1
  have f4 := w64_dif i6 i2
  clear i1 i2 i3 i4 i5 i6
  have hF : Below w.heap.size w ((((w.alloc (.cells #[.int .i32 ax, .int .i32 ay] 23)).alloc (.cells #[.int .i32 bx, .int .i32 by_] 23)).alloc (.cells #[.int .i32 px, .int .i32 py] 23)).alloc (.cells #[.bool false, .slice none 0 0, .bool false, .slice none 0 0] 53)) := (((((Gr.refl _).alloc _).alloc _).alloc _).alloc _).below
  have k : Q4 ((((w.alloc (.cells #[.int .i32 ax, .int .i32 ay] 23)).alloc (.cells #[.int .i32 bx, .int .i32 by_] 23)).alloc (.cells #[.int .i32 px, .int .i32 py] 23)).alloc (.cells #[.bool false, .slice none 0 0, .bool false, .slice none 0 0] 53)) (w.heap.size + 1 + 1 + 1) (.bool false) (.slice none 0 0) (.bool false) (.slice none 0 0) := by
    have := Q4.new (((w.alloc (.cells #[.int .i32 ax, .int .i32 ay] 23)).alloc (.cells #[.int .i32 bx, .int .i32 by_] 23)).alloc (.cells #[.int .i32 px, .int .i32 py] 23)) (.bool false) (.slice none 0 0) (.bool false) (.slice none 0 0)
    simpa using this
  have hS : S6 ⟨w.heap.size, 0, none⟩ ⟨w.heap.size, 1, none⟩ ⟨w.heap.size + 1, 0, none⟩ ⟨w.heap.size + 1, 1, none⟩ ⟨w.heap.size + 1 + 1, 0, none⟩ ⟨w.heap.size + 1 + 1, 1, none⟩ (.int .i32 ax) (.int .i32 ay) (.int .i32 bx) (.int .i32 by_) (.int .i32 px) (.int .i32 py) ((((w.alloc (.cells #[.int .i32 ax, .int .i32 ay] 23)).alloc (.cells #[.int .i32 bx, .int .i32 by_] 23)).alloc (.cells #[.int .i32 px, .int .i32 py] 23)).alloc (.cells #[.bool false, .slice none 0 0, .bool false, .slice none 0 0] 53)) := ⟨by go_simp, by go_simp, by go_simp, by go_simp, by go_simp, by go_simp⟩
  show Calls Try.prog 41 #[pt ax ay, pt bx by_, pt px py] w _
  by_cases hx : ax = bx
  · have hB : (ax == bx) = true := by simp [hx]
    have A1 : alP (ax, ay) (bx, by_) (px, py) = py - ay := by unfold alP; rw [if_neg (by simp [hx])]
    have A2 : alD (ax, ay) (bx, by_) = by_ - ay := by unfold alD; rw [if_neg (by simp [hx])]
    rw [A1, A2]
    clear A1 A2 hx
    have K1 : Hid (∀ W, Calls Try.prog 26 #[.int .i64 (IntKind.i64.wrap (IntKind.i64.wrap py - IntKind.i64.wrap ay))] W fun e w' => ∃ z, e = .returned z ∧ Rt w' z (py - ay) 1 2 ∧ Below W.heap.size W w') := fun W => by
      rw [show IntKind.i64.wrap (IntKind.i64.wrap py - IntKind.i64.wrap ay) = py - ay from by rw [IntKind.wrap_i64, IntKind.wrap_i64, IntKind.wrap_i64]; unfold i64 at *; unfold wrap64 at *; omega]
      exact whole_rt (py - ay) W hd3.1 hd3.2
    have K2 : Hid (∀ W, Calls Try.prog 26 #[.int .i64 (IntKind.i64.wrap (IntKind.i64.wrap by_ - IntKind.i64.wrap ay))] W fun e w' => ∃ z, e = .returned z ∧ Rt w' z (by_ - ay) 1 2 ∧ Below W.heap.size W w') := fun W => by
      rw [show IntKind.i64.wrap (IntKind.i64.wrap by_ - IntKind.i64.wrap ay) = by_ - ay from by rw [IntKind.wrap_i64, IntKind.wrap_i64, IntKind.wrap_i64]; unfold i64 at *; unfold wrap64 at *; omega]
      exact whole_rt (by_ - ay) W hd4.1 hd4.2
    have E1 : Hid (quoN (py - ay) 1 (by_ - ay) 1 = alN (py - ay) (by_ - ay)) := by unfold Hid quoN alN; rw [Int.one_mul, Int.mul_one]
    have E2 : Hid (quoD 1 (by_ - ay) = absI (by_ - ay)) := by unfold Hid quoD absI; rw [Int.one_mul]
    clear hd1 hd2 hd3 hd4
    go_enter Try.func41, Try.ntmps41
    go_upto_region 3 with fail
    generalize ((((w.alloc (.cells #[.int .i32 ax, .int .i32 ay] 23)).alloc (.cells #[.int .i32 bx, .int .i32 by_] 23)).alloc (.cells #[.int .i32 px, .int .i32 py] 23)).alloc (.cells #[.bool false, .slice none 0 0, .bool false, .slice none 0 0] 53)) = W at *
    have kd : Q4 W.drew (w.heap.size + 1 + 1 + 1) (.bool false) (.slice none 0 0) (.bool false) (.slice none 0 0) := k
    have hFd : Below w.heap.size w W.drew := hF.drew
    have hS0 : Hid (S6 ⟨w.heap.size, 0, none⟩ ⟨w.heap.size, 1, none⟩ ⟨w.heap.size + 1, 0, none⟩ ⟨w.heap.size + 1, 1, none⟩ ⟨w.heap.size + 1 + 1, 0, none⟩ ⟨w.heap.size + 1 + 1, 1, none⟩ (.int .i32 ax) (.int .i32 ay) (.int .i32 bx) (.int .i32 by_) (.int .i32 px) (.int .i32 py) W.drew) := hS
    clear k hF hS
    go_region_held3 (S6 ⟨w.heap.size, 0, none⟩ ⟨w.heap.size, 1, none⟩ ⟨w.heap.size + 1, 0, none⟩ ⟨w.heap.size + 1, 1, none⟩ ⟨w.heap.size + 1 + 1, 0, none⟩ ⟨w.heap.size + 1 + 1, 1, none⟩ (.int .i32 ax) (.int .i32 ay) (.int .i32 bx) (.int .i32 by_) (.int .i32 px) (.int .i32 py))
      (repeat (first | with_reducible exact hS3.out | with_reducible exact hS2.out | with_reducible exact hS1.out | with_reducible exact hS0.out | (with_reducible refine S6.set ?_ (by simp only []; omega) (by simp only []; omega) (by simp only []; omega) (by simp only []; omega) (by simp only []; omega) (by simp only []; omega) _)))
      (first
        | (go_at_call 25; refine (rquo_rt _ _ (py - ay) 1 (by_ - ay) 1 2 2 _ z1.out z2.out (by omega)).mono ?_; rintro e y3 ⟨z, rfl, hz, g3⟩; obtain ⟨r3, o3, l3, c3, R3, O3, M3, C3, rfl, z3⟩ := hz.shape; clear hz; have hS3 : Hid (S6 ⟨w.heap.size, 0, none⟩ ⟨w.heap.size, 1, none⟩ ⟨w.heap.size + 1, 0, none⟩ ⟨w.heap.size + 1, 1, none⟩ ⟨w.heap.size + 1 + 1, 0, none⟩ ⟨w.heap.size + 1 + 1, 1, none⟩ (.int .i32 ax) (.int .i32 ay) (.int .i32 bx) (.int .i32 by_) (.int .i32 px) (.int .i32 py) y3) := S6.call hS2.out g3; replace kd := kd.mono g3 kd.lt; have d0 := kd.c0; have d1 := kd.c1; have d2 := kd.c2; have d3 := kd.c3; have df := kd.f; replace hFd := hFd.trans (g3.mono hFd.size))
        | (have _n := z1; go_at_call 26; refine (K2.out _).mono ?_; rintro e y2 ⟨z, rfl, hz, g2⟩; obtain ⟨r2, o2, l2, c2, R2, O2, M2, C2, rfl, z2⟩ := hz.shape; clear hz; replace z1 := hid' (z1.out.mono g2); have hS2 : Hid (S6 ⟨w.heap.size, 0, none⟩ ⟨w.heap.size, 1, none⟩ ⟨w.heap.size + 1, 0, none⟩ ⟨w.heap.size + 1, 1, none⟩ ⟨w.heap.size + 1 + 1, 0, none⟩ ⟨w.heap.size + 1 + 1, 1, none⟩ (.int .i32 ax) (.int .i32 ay) (.int .i32 bx) (.int .i32 by_) (.int .i32 px) (.int .i32 py) y2) := S6.call hS1.out g2; replace kd := kd.mono g2 kd.lt; replace hFd := hFd.trans (g2.mono hFd.size))
        | (go_at_call 26; refine (K1.out _).mono ?_; rintro e y1 ⟨z, rfl, hz, g1⟩; obtain ⟨r1, o1, l1, c1, R1, O1, M1, C1, rfl, z1⟩ := hz.shape; clear hz; have hS1 : Hid (S6 ⟨w.heap.size, 0, none⟩ ⟨w.heap.size, 1, none⟩ ⟨w.heap.size + 1, 0, none⟩ ⟨w.heap.size + 1, 1, none⟩ ⟨w.heap.size + 1 + 1, 0, none⟩ ⟨w.heap.size + 1 + 1, 1, none⟩ (.int .i32 ax) (.int .i32 ay) (.int .i32 bx) (.int .i32 by_) (.int .i32 px) (.int .i32 py) y1) := S6.call hS0.out g1; replace kd := kd.mono g1 kd.lt; replace hFd := hFd.trans (g1.mono hFd.size)))
    all_goals
      go_wp2
      refine bodyPost_ret (v := .agg #[.bool r3, .slice o3 l3 c3, .bool R3, .slice O3 M3 C3]) (by simp [results, Try.results41, go_sem, d0, d1, d2, d3]) rfl ⟨_, rfl, ?_, ?_⟩
      · exact (z3.out.setQ kd _ _ _ _).to E1.out E2.out
      · exact (((hFd.setCell (by simp only []; omega) _).setCell (by simp only []; omega) _).setCell (by simp only []; omega) _).setCell (by simp only []; omega) _
  · have hB : (ax == bx) = false := by simp [hx]
    have A1 : alP (ax, ay) (bx, by_) (px, py) = px - ax := by unfold alP; rw [if_pos hx]
    have A2 : alD (ax, ay) (bx, by_) = bx - ax := by unfold alD; rw [if_pos hx]
    rw [A1, A2]
    clear A1 A2 hx
    have K1 : Hid (∀ W, Calls Try.prog 26 #[.int .i64 (IntKind.i64.wrap (IntKind.i64.wrap px - IntKind.i64.wrap ax))] W fun e w' => ∃ z, e = .returned z ∧ Rt w' z (px - ax) 1 2 ∧ Below W.heap.size W w') := fun W => by
      rw [show IntKind.i64.wrap (IntKind.i64.wrap px - IntKind.i64.wrap ax) = px - ax from by rw [IntKind.wrap_i64, IntKind.wrap_i64, IntKind.wrap_i64]; unfold i64 at *; unfold wrap64 at *; omega]
      exact whole_rt (px - ax) W hd1.1 hd1.2
    have K2 : Hid (∀ W, Calls Try.prog 26 #[.int .i64 (IntKind.i64.wrap (IntKind.i64.wrap bx - IntKind.i64.wrap ax))] W fun e w' => ∃ z, e = .returned z ∧ Rt w' z (bx - ax) 1 2 ∧ Below W.heap.size W w') := fun W => by
      rw [show IntKind.i64.wrap (IntKind.i64.wrap bx - IntKind.i64.wrap ax) = bx - ax from by rw [IntKind.wrap_i64, IntKind.wrap_i64, IntKind.wrap_i64]; unfold i64 at *; unfold wrap64 at *; omega]
      exact whole_rt (bx - ax) W hd2.1 hd2.2
    have E1 : Hid (quoN (px - ax) 1 (bx - ax) 1 = alN (px - ax) (bx - ax)) := by unfold Hid quoN alN; rw [Int.one_mul, Int.mul_one]
    have E2 : Hid (quoD 1 (bx - ax) = absI (bx - ax)) := by unfold Hid quoD absI; rw [Int.one_mul]
    clear hd1 hd2 hd3 hd4
    go_enter Try.func41, Try.ntmps41
    go_upto_region 2 with fail
    generalize ((((w.alloc (.cells #[.int .i32 ax, .int .i32 ay] 23)).alloc (.cells #[.int .i32 bx, .int .i32 by_] 23)).alloc (.cells #[.int .i32 px, .int .i32 py] 23)).alloc (.cells #[.bool false, .slice none 0 0, .bool false, .slice none 0 0] 53)) = W at *
    have kd : Q4 W.drew (w.heap.size + 1 + 1 + 1) (.bool false) (.slice none 0 0) (.bool false) (.slice none 0 0) := k
    have hFd : Below w.heap.size w W.drew := hF.drew
    have hS0 : Hid (S6 ⟨w.heap.size, 0, none⟩ ⟨w.heap.size, 1, none⟩ ⟨w.heap.size + 1, 0, none⟩ ⟨w.heap.size + 1, 1, none⟩ ⟨w.heap.size + 1 + 1, 0, none⟩ ⟨w.heap.size + 1 + 1, 1, none⟩ (.int .i32 ax) (.int .i32 ay) (.int .i32 bx) (.int .i32 by_) (.int .i32 px) (.int .i32 py) W.drew) := hS
    clear k hF hS
    go_region_held3 (S6 ⟨w.heap.size, 0, none⟩ ⟨w.heap.size, 1, none⟩ ⟨w.heap.size + 1, 0, none⟩ ⟨w.heap.size + 1, 1, none⟩ ⟨w.heap.size + 1 + 1, 0, none⟩ ⟨w.heap.size + 1 + 1, 1, none⟩ (.int .i32 ax) (.int .i32 ay) (.int .i32 bx) (.int .i32 by_) (.int .i32 px) (.int .i32 py))
      (repeat (first | with_reducible exact hS3.out | with_reducible exact hS2.out | with_reducible exact hS1.out | with_reducible exact hS0.out | (with_reducible refine S6.set ?_ (by simp only []; omega) (by simp only []; omega) (by simp only []; omega) (by simp only []; omega) (by simp only []; omega) (by simp only []; omega) _)))
      (first
        | (go_at_call 25; refine (rquo_rt _ _ (px - ax) 1 (bx - ax) 1 2 2 _ z1.out z2.out (by omega)).mono ?_; rintro e y3 ⟨z, rfl, hz, g3⟩; obtain ⟨r3, o3, l3, c3, R3, O3, M3, C3, rfl, z3⟩ := hz.shape; clear hz; have hS3 : Hid (S6 ⟨w.heap.size, 0, none⟩ ⟨w.heap.size, 1, none⟩ ⟨w.heap.size + 1, 0, none⟩ ⟨w.heap.size + 1, 1, none⟩ ⟨w.heap.size + 1 + 1, 0, none⟩ ⟨w.heap.size + 1 + 1, 1, none⟩ (.int .i32 ax) (.int .i32 ay) (.int .i32 bx) (.int .i32 by_) (.int .i32 px) (.int .i32 py) y3) := S6.call hS2.out g3; replace kd := kd.mono g3 kd.lt; have d0 := kd.c0; have d1 := kd.c1; have d2 := kd.c2; have d3 := kd.c3; have df := kd.f; replace hFd := hFd.trans (g3.mono hFd.size))
        | (have _n := z1; go_at_call 26; refine (K2.out _).mono ?_; rintro e y2 ⟨z, rfl, hz, g2⟩; obtain ⟨r2, o2, l2, c2, R2, O2, M2, C2, rfl, z2⟩ := hz.shape; clear hz; replace z1 := hid' (z1.out.mono g2); have hS2 : Hid (S6 ⟨w.heap.size, 0, none⟩ ⟨w.heap.size, 1, none⟩ ⟨w.heap.size + 1, 0, none⟩ ⟨w.heap.size + 1, 1, none⟩ ⟨w.heap.size + 1 + 1, 0, none⟩ ⟨w.heap.size + 1 + 1, 1, none⟩ (.int .i32 ax) (.int .i32 ay) (.int .i32 bx) (.int .i32 by_) (.int .i32 px) (.int .i32 py) y2) := S6.call hS1.out g2; replace kd := kd.mono g2 kd.lt; replace hFd := hFd.trans (g2.mono hFd.size))
        | (go_at_call 26; refine (K1.out _).mono ?_; rintro e y1 ⟨z, rfl, hz, g1⟩; obtain ⟨r1, o1, l1, c1, R1, O1, M1, C1, rfl, z1⟩ := hz.shape; clear hz; have hS1 : Hid (S6 ⟨w.heap.size, 0, none⟩ ⟨w.heap.size, 1, none⟩ ⟨w.heap.size + 1, 0, none⟩ ⟨w.heap.size + 1, 1, none⟩ ⟨w.heap.size + 1 + 1, 0, none⟩ ⟨w.heap.size + 1 + 1, 1, none⟩ (.int .i32 ax) (.int .i32 ay) (.int .i32 bx) (.int .i32 by_) (.int .i32 px) (.int .i32 py) y1) := S6.call hS0.out g1; replace kd := kd.mono g1 kd.lt; replace hFd := hFd.trans (g1.mono hFd.size)))
    all_goals
      go_wp2
      refine bodyPost_ret (v := .agg #[.bool r3, .slice o3 l3 c3, .bool R3, .slice O3 M3 C3]) (by simp [results, Try.results41, go_sem, d0, d1, d2, d3]) rfl ⟨_, rfl, ?_, ?_⟩
      · exact (z3.out.setQ kd _ _ _ _).to E1.out E2.out
      · exact (((hFd.setCell (by simp only []; omega) _).setCell (by simp only []; omega) _).setCell (by simp only []; omega) _).setCell (by simp only []; omega) _
end Go.Proofs.Ytagabccaipfjeaa
