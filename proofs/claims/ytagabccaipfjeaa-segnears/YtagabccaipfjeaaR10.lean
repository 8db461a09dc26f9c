/- Contracts of the reference's fractions: Cmp, sub, quo. -/
import Derived.Test.YtagabccaipfjeaaR9
namespace Go.Proofs.Ytagabccaipfjeaa
open Go.RowKit Go.Sort

theorem other_b (x : Value) (n : Int) (L : Nat) (w : World) (h : Nm w x n L) : Calls Try.prog 44 #[x] w fun e w' => ∃ z, e = .returned z ∧ Nm w' z (-n) L ∧ Below w.heap.size w w' :=
  (other_num x n L w h).mono fun _ _ ⟨z, e, h, g⟩ => ⟨z, e, h, g.below⟩
theorem cmp_dif (a b : Int) : cmpI (a + -b) 0 = cmpI a b := by unfold cmpI; split <;> split <;> (try split) <;> (try split) <;> omega
set_option maxRecDepth 20000 in
set_option maxHeartbeats 2000000 in
theorem rcmp_rt (x y : Value) (n d m e' : Int) (L M : Nat) (w : World) (hx : Rt w x n d L) (hy : Rt w y m e' M) (hL : L + M ≤ 400) :
    Calls Try.prog 27 #[x, y] w fun e w' => e = .returned (.int .i64 (cmpI (n * e') (m * d))) ∧ Below w.heap.size w w' := by
  obtain ⟨ar, ao, al, ac, aR, aO, aL, aC, rfl, ha1, ha2⟩ := hx
  obtain ⟨br, bo, bl, bc, bR, bO, bL, bC, rfl, hb1, hb2⟩ := hy
  have k0 : Q4 ((w.alloc (.cells #[.bool ar, .slice ao al ac, .bool aR, .slice aO aL aC] 53)).alloc (.cells #[.bool br, .slice bo bl bc, .bool bR, .slice bO bL bC] 53)) w.heap.size (.bool ar) (.slice ao al ac) (.bool aR) (.slice aO aL aC) := (Q4.new w _ _ _ _).gr ((Gr.refl _).alloc _)
  have k1 : Q4 ((w.alloc (.cells #[.bool ar, .slice ao al ac, .bool aR, .slice aO aL aC] 53)).alloc (.cells #[.bool br, .slice bo bl bc, .bool bR, .slice bO bL bC] 53)) (w.heap.size + 1) (.bool br) (.slice bo bl bc) (.bool bR) (.slice bO bL bC) := by
    have := (Q4.new (w.alloc (.cells #[.bool ar, .slice ao al ac, .bool aR, .slice aO aL aC] 53)) (.bool br) (.slice bo bl bc) (.bool bR) (.slice bO bL bC))
    simpa using this
  have hF0 : Below w.heap.size w ((w.alloc (.cells #[.bool ar, .slice ao al ac, .bool aR, .slice aO aL aC] 53)).alloc (.cells #[.bool br, .slice bo bl bc, .bool bR, .slice bO bL bC] 53)) := (((Gr.refl _).alloc _).alloc _).below
  have hK : w.heap.size + 1 + 1 ≤ ((w.alloc (.cells #[.bool ar, .slice ao al ac, .bool aR, .slice aO aL aC] 53)).alloc (.cells #[.bool br, .slice bo bl bc, .bool bR, .slice bO bL bC] 53)).heap.size := by simp
  have hD : Below w.heap.size w ((w.alloc (.cells #[.bool ar, .slice ao al ac, .bool aR, .slice aO aL aC] 53)).alloc (.cells #[.bool br, .slice bo bl bc, .bool bR, .slice bO bL bC] 53)).drew := (((Gr.refl _).alloc _).alloc _).drew.below
  have N1 := hid' (ha1.mono hD)
  have N2 := hid' (ha2.mono hD)
  have N3 := hid' (hb1.mono hD)
  have N4 := hid' (hb2.mono hD)
  clear ha1 ha2 hb1 hb2 hD
  have E := hid' (cmp_dif (n * e') (m * d))
  go_enter Try.func27, Try.ntmps27
  go_upto_region 1 with fail
  generalize ((w.alloc (.cells #[.bool ar, .slice ao al ac, .bool aR, .slice aO aL aC] 53)).alloc (.cells #[.bool br, .slice bo bl bc, .bool bR, .slice bO bL bC] 53)) = W at *
  have hS0 : Hid (S8 w.heap.size (w.heap.size + 1) (.bool ar) (.slice ao al ac) (.bool aR) (.slice aO aL aC) (.bool br) (.slice bo bl bc) (.bool bR) (.slice bO bL bC) (w.heap.size + 1 + 1) W W.drew) := ⟨k0.c0, k0.c1, k0.c2, k0.c3, k1.c0, k1.c1, k1.c2, k1.c3, (Below.refl _ _).drew⟩
  clear k0 k1
  go_region_held3 (S8 w.heap.size (w.heap.size + 1) (.bool ar) (.slice ao al ac) (.bool aR) (.slice aO aL aC) (.bool br) (.slice bo bl bc) (.bool bR) (.slice bO bL bC) (w.heap.size + 1 + 1) W)
    (repeat (first | with_reducible exact hS5.out | with_reducible exact hS4.out | with_reducible exact hS3.out | with_reducible exact hS2.out | with_reducible exact hS1.out | with_reducible exact hS0.out | (with_reducible refine S8.set ?_ (by simp only []; omega) (by omega) (by omega) _)))
    (first
      | (go_at_call 42; refine (sign_num _ (n * e' + -(m * d)) _ _ hz4.out).mono ?_; rintro e y5 ⟨rfl, g5⟩; have hS5 : Hid (S8 w.heap.size (w.heap.size + 1) (.bool ar) (.slice ao al ac) (.bool aR) (.slice aO aL aC) (.bool br) (.slice bo bl bc) (.bool bR) (.slice bO bL bC) (w.heap.size + 1 + 1) W y5) := S8.call hS4.out hK g5.below)
      | (go_at_call 46; refine (plus_num _ _ (n * e') (-(m * d)) (L + M) (L + M) _ hz1.out (hz3.out.le (by omega)) (by omega) (by omega)).mono ?_; rintro e y4 ⟨z, rfl, hz, g4⟩; obtain ⟨r4, o4, l4, c4, rfl, hz4⟩ := hz.shape; clear hz; have hS4 : Hid (S8 w.heap.size (w.heap.size + 1) (.bool ar) (.slice ao al ac) (.bool aR) (.slice aO aL aC) (.bool br) (.slice bo bl bc) (.bool bR) (.slice bO bL bC) (w.heap.size + 1 + 1) W y4) := S8.call hS3.out hK g4)
      | (go_at_call 44; refine (other_b _ (m * d) (M + L) _ hz2.out).mono ?_; rintro e y3 ⟨z, rfl, hz, g3⟩; obtain ⟨r3, o3, l3, c3, rfl, hz3⟩ := hz.shape; clear hz; have hS3 : Hid (S8 w.heap.size (w.heap.size + 1) (.bool ar) (.slice ao al ac) (.bool aR) (.slice aO aL aC) (.bool br) (.slice bo bl bc) (.bool bR) (.slice bO bL bC) (w.heap.size + 1 + 1) W y3) := S8.call hS2.out hK g3; replace hz1 := hid' (hz1.out.mono g3))
      | (have _n0 := hz1; go_at_call 43; refine (times_num _ _ m d M L _ N3.out N2.out (by omega) (by omega)).mono ?_; rintro e y2 ⟨z, rfl, hz, g2⟩; obtain ⟨r2, o2, l2, c2, rfl, hz2⟩ := hz.shape; clear hz; have hS2 : Hid (S8 w.heap.size (w.heap.size + 1) (.bool ar) (.slice ao al ac) (.bool aR) (.slice aO aL aC) (.bool br) (.slice bo bl bc) (.bool bR) (.slice bO bL bC) (w.heap.size + 1 + 1) W y2) := S8.call hS1.out hK g2; replace hz1 := hid' (hz1.out.mono g2))
      | (go_at_call 43; refine (times_num _ _ n e' L M _ N1.out N4.out (by omega) (by omega)).mono ?_; rintro e y1 ⟨z, rfl, hz, g1⟩; obtain ⟨r1, o1, l1, c1, rfl, hz1⟩ := hz.shape; clear hz; have hS1 : Hid (S8 w.heap.size (w.heap.size + 1) (.bool ar) (.slice ao al ac) (.bool aR) (.slice aO aL aC) (.bool br) (.slice bo bl bc) (.bool bR) (.slice bO bL bC) (w.heap.size + 1 + 1) W y1) := S8.call hS0.out hK g1; replace N2 := hid' (N2.out.mono g1); replace N3 := hid' (N3.out.mono g1)))
  all_goals
    have hB := hid' (hF0.trans (hS5.out.2.2.2.2.2.2.2.2.mono (by omega)))
    go_wp2
    go_ret
    exact ⟨by rw [← E.out]; rfl, hB.out⟩
set_option maxRecDepth 20000 in
set_option maxHeartbeats 2000000 in
theorem rsub_rt (x y : Value) (n d m e' : Int) (L M : Nat) (w : World) (hx : Rt w x n d L) (hy : Rt w y m e' M) (hL : L + M ≤ 400) :
    Calls Try.prog 37 #[x, y] w fun e w' => ∃ z, e = .returned z ∧ Rt w' z (n * e' + -m * d) (d * e') (L + M + 1) ∧ Below w.heap.size w w' := by
  obtain ⟨ar, ao, al, ac, aR, aO, aL, aC, rfl, ha1, ha2⟩ := hx
  obtain ⟨br, bo, bl, bc, bR, bO, bL, bC, rfl, hb1, hb2⟩ := hy
  have k0 : Q4 (((w.alloc (.cells #[.bool ar, .slice ao al ac, .bool aR, .slice aO aL aC] 53)).alloc (.cells #[.bool br, .slice bo bl bc, .bool bR, .slice bO bL bC] 53)).alloc (.cells #[.bool false, .slice none 0 0, .bool false, .slice none 0 0] 53)) w.heap.size (.bool ar) (.slice ao al ac) (.bool aR) (.slice aO aL aC) := (Q4.new w _ _ _ _).gr (((Gr.refl _).alloc _).alloc _)
  have k1 : Q4 (((w.alloc (.cells #[.bool ar, .slice ao al ac, .bool aR, .slice aO aL aC] 53)).alloc (.cells #[.bool br, .slice bo bl bc, .bool bR, .slice bO bL bC] 53)).alloc (.cells #[.bool false, .slice none 0 0, .bool false, .slice none 0 0] 53)) (w.heap.size + 1) (.bool br) (.slice bo bl bc) (.bool bR) (.slice bO bL bC) := by
    have := (Q4.new (w.alloc (.cells #[.bool ar, .slice ao al ac, .bool aR, .slice aO aL aC] 53)) (.bool br) (.slice bo bl bc) (.bool bR) (.slice bO bL bC)).gr ((Gr.refl _).alloc (.cells #[.bool false, .slice none 0 0, .bool false, .slice none 0 0] 53))
    simpa using this
  have k2 : Q4 (((w.alloc (.cells #[.bool ar, .slice ao al ac, .bool aR, .slice aO aL aC] 53)).alloc (.cells #[.bool br, .slice bo bl bc, .bool bR, .slice bO bL bC] 53)).alloc (.cells #[.bool false, .slice none 0 0, .bool false, .slice none 0 0] 53)) (w.heap.size + 1 + 1) (.bool false) (.slice none 0 0) (.bool false) (.slice none 0 0) := by
    have := Q4.new ((w.alloc (.cells #[.bool ar, .slice ao al ac, .bool aR, .slice aO aL aC] 53)).alloc (.cells #[.bool br, .slice bo bl bc, .bool bR, .slice bO bL bC] 53)) (.bool false) (.slice none 0 0) (.bool false) (.slice none 0 0)
    simpa using this
  have hF0 : Below w.heap.size w (((w.alloc (.cells #[.bool ar, .slice ao al ac, .bool aR, .slice aO aL aC] 53)).alloc (.cells #[.bool br, .slice bo bl bc, .bool bR, .slice bO bL bC] 53)).alloc (.cells #[.bool false, .slice none 0 0, .bool false, .slice none 0 0] 53)) := ((((Gr.refl _).alloc _).alloc _).alloc _).below
  have hK : w.heap.size + 1 + 1 ≤ (((w.alloc (.cells #[.bool ar, .slice ao al ac, .bool aR, .slice aO aL aC] 53)).alloc (.cells #[.bool br, .slice bo bl bc, .bool bR, .slice bO bL bC] 53)).alloc (.cells #[.bool false, .slice none 0 0, .bool false, .slice none 0 0] 53)).heap.size := by simp
  have hD : Below w.heap.size w (((w.alloc (.cells #[.bool ar, .slice ao al ac, .bool aR, .slice aO aL aC] 53)).alloc (.cells #[.bool br, .slice bo bl bc, .bool bR, .slice bO bL bC] 53)).alloc (.cells #[.bool false, .slice none 0 0, .bool false, .slice none 0 0] 53)).drew := ((((Gr.refl _).alloc _).alloc _).alloc _).drew.below
  have N1 := hid' (ha1.mono hD)
  have N2 := hid' (ha2.mono hD)
  have N3 := hid' (hb1.mono hD)
  have N4 := hid' (hb2.mono hD)
  clear ha1 ha2 hb1 hb2 hD
  go_enter Try.func37, Try.ntmps37
  go_upto_region 1 with fail
  generalize (((w.alloc (.cells #[.bool ar, .slice ao al ac, .bool aR, .slice aO aL aC] 53)).alloc (.cells #[.bool br, .slice bo bl bc, .bool bR, .slice bO bL bC] 53)).alloc (.cells #[.bool false, .slice none 0 0, .bool false, .slice none 0 0] 53)) = W at *
  have hS0 : Hid (S8 w.heap.size (w.heap.size + 1) (.bool ar) (.slice ao al ac) (.bool aR) (.slice aO aL aC) (.bool br) (.slice bo bl bc) (.bool bR) (.slice bO bL bC) (w.heap.size + 1 + 1) W W.drew) := ⟨k0.c0, k0.c1, k0.c2, k0.c3, k1.c0, k1.c1, k1.c2, k1.c3, (Below.refl _ _).drew⟩
  have kd : Q4 W.drew (w.heap.size + 1 + 1) (.bool false) (.slice none 0 0) (.bool false) (.slice none 0 0) := k2
  clear k0 k1 k2
  go_region_held3 (S8 w.heap.size (w.heap.size + 1) (.bool ar) (.slice ao al ac) (.bool aR) (.slice aO aL aC) (.bool br) (.slice bo bl bc) (.bool bR) (.slice bO bL bC) (w.heap.size + 1 + 1) W)
    (repeat (first | with_reducible exact hS5.out | with_reducible exact hS4.out | with_reducible exact hS3.out | with_reducible exact hS2.out | with_reducible exact hS1.out | with_reducible exact hS0.out | (with_reducible refine S8.set ?_ (by simp only []; omega) (by omega) (by omega) _)))
    (first
      | (go_at_call 38; refine (radd_rt _ _ n d (-m) e' L M _ ⟨_, _, _, _, _, _, _, _, rfl, N1.out, N2.out⟩ ⟨_, _, _, _, _, _, _, _, rfl, hz1.out, N4.out⟩ hL).mono ?_; rintro e y2 ⟨z, rfl, hz, g2⟩; obtain ⟨r2, o2, l2, c2, r3, o3, l3, c3, rfl, hz2, hz3⟩ := hz; replace hz2 := hid' hz2; replace hz3 := hid' hz3; have hS2 : Hid (S8 w.heap.size (w.heap.size + 1) (.bool ar) (.slice ao al ac) (.bool aR) (.slice aO aL aC) (.bool br) (.slice bo bl bc) (.bool bR) (.slice bO bL bC) (w.heap.size + 1 + 1) W y2) := S8.call hS1.out hK g2; replace kd := kd.mono g2 kd.lt; have d0 := kd.c0; have d1 := kd.c1; have d2 := kd.c2; have d3 := kd.c3; have df := kd.f)
      | (go_at_call 44; refine (other_b _ m M _ N3.out).mono ?_; rintro e y1 ⟨z, rfl, hz, g1⟩; obtain ⟨r1, o1, l1, c1, rfl, hz1⟩ := hz.shape; clear hz; have hS1 : Hid (S8 w.heap.size (w.heap.size + 1) (.bool ar) (.slice ao al ac) (.bool aR) (.slice aO aL aC) (.bool br) (.slice bo bl bc) (.bool bR) (.slice bO bL bC) (w.heap.size + 1 + 1) W y1) := S8.call hS0.out hK g1; replace kd := kd.mono g1 kd.lt; replace N1 := hid' (N1.out.mono g1); replace N2 := hid' (N2.out.mono g1); replace N4 := hid' (N4.out.mono g1)))
  all_goals
    have hB := hid' (hF0.trans (hS2.out.2.2.2.2.2.2.2.2.mono (by omega)))
    go_wp2
    refine bodyPost_ret (v := .agg #[.bool r2, .slice o2 l2 c2, .bool r3, .slice o3 l3 c3]) (by simp [results, Try.results37, go_sem, d0, d1, d2, d3]) rfl ⟨_, rfl, ⟨r2, o2, l2, c2, r3, o3, l3, c3, rfl, ?_, ?_⟩, ?_⟩
    · exact (hz2.out.setQ kd _ _ _ _).le (by omega)
    · exact (hz3.out.setQ kd _ _ _ _).le (by omega)
    · exact (((hB.out.setCell (by simp only []; omega) _).setCell (by simp only []; omega) _).setCell (by simp only []; omega) _).setCell (by simp only []; omega) _
end Go.Proofs.Ytagabccaipfjeaa
