/- Contract of the reference's On: is a point on a segment? -/
import Derived.Test.YtagabccaipfjeaaR13
namespace Go.Proofs.Ytagabccaipfjeaa
open Go.RowKit Go.Sort

theorem al_on {a b p : P2} (h : a ≠ b) (hc : crs a b p = 0) : (0 ≤ alN (alP a b p) (alD a b) ∧ alN (alP a b p) (alD a b) ≤ absI (alD a b)) ↔ On p a b := by
  unfold alP alD
  by_cases hx : a.1 ≠ b.1
  · rw [if_pos hx, if_pos hx]
    have k : 0 < absI (b.1 - a.1) := by unfold absI; split <;> omega
    have e : absI (b.1 - a.1) * (p.2 - a.2) = (b.2 - a.2) * alN (p.1 - a.1) (b.1 - a.1) := by
      unfold absI alN crs at *
      split <;> grind
    constructor
    · rintro ⟨h0, h1⟩
      have q := btw k e h0 h1
      refine ⟨hc, ?_, by omega⟩
      unfold alN absI at *
      split at h0 <;> simp_all <;> omega
    · rintro ⟨_, h1, _⟩
      unfold alN absI
      split <;> omega
  · have hx' : a.1 = b.1 := by omega
    rw [if_neg hx, if_neg hx]
    have hy : b.2 - a.2 ≠ 0 := fun q => h (Prod.ext hx' (by omega))
    have e : (b.2 - a.2) * (p.1 - a.1) = 0 := by unfold crs at hc; rw [hx'] at hc ⊢; grind
    have px : p.1 - a.1 = 0 := by
      rcases Int.mul_eq_zero.mp e with q | q
      · exact absurd q hy
      · exact q
    constructor
    · rintro ⟨h0, h1⟩
      refine ⟨hc, by omega, ?_⟩
      unfold alN absI at *
      split at h0 <;> simp_all <;> omega
    · rintro ⟨_, _, h2⟩
      unfold alN absI
      split <;> omega
/-- Four cells of a block. -/
abbrev SQ (B : Nat) (x0 x1 x2 x3 : Value) (w : World) : Prop := w.cell? ⟨B, 0, none⟩ = some x0 ∧ w.cell? ⟨B, 1, none⟩ = some x1 ∧ w.cell? ⟨B, 2, none⟩ = some x2 ∧ w.cell? ⟨B, 3, none⟩ = some x3
theorem SQ.call {B : Nat} {x0 x1 x2 x3 : Value} {w w' : World} (h : SQ B x0 x1 x2 x3 w) (g : Below w.heap.size w w') : SQ B x0 x1 x2 x3 w' :=
  ⟨below_cell h.1 g, below_cell h.2.1 g, below_cell h.2.2.1 g, below_cell h.2.2.2 g⟩
set_option maxRecDepth 20000 in
set_option maxHeartbeats 2000000 in
theorem ron_any (p a b : P2) (w : World) (hp : ins p) (ha : ins a) (hb : ins b) :
    Calls Try.prog 20 #[ptv p, ptv a, ptv b] w fun e w' => e = .returned (.bool (onP p a b)) ∧ Below w.heap.size w w' := by
  by_cases hab : a = b
  · subst hab
    have E : onP p a a = (p.1 == a.1 && p.2 == a.2) := by
      rw [Bool.eq_iff_iff, onP_iff, on_same, Bool.and_eq_true, beq_iff_eq, beq_iff_eq]
      exact ⟨fun h => by rw [h]; exact ⟨rfl, rfl⟩, fun h => Prod.ext h.1 h.2⟩
    rw [E]
    clear E hp ha hb
    obtain ⟨px, py⟩ := p
    obtain ⟨ax, ay⟩ := a
    show Calls Try.prog 20 #[pt px py, pt ax ay, pt ax ay] w fun e w' => e = .returned (.bool (px == ax && py == ay)) ∧ Below w.heap.size w w'
    have e1 : (ax == ax) = true := by simp
    have e2 : (ay == ay) = true := by simp
    cases h1 : (px == ax) <;> cases h2 : (py == ay) <;>
    · go_enter Try.func20, Try.ntmps20
      go_wp2
      go_ret
      exact ⟨rfl, ((((Gr.refl _).alloc _).alloc _).alloc _).below⟩
  · have T := hid' (fun W => rturn_any a b p W ha hb hp)
    have A := hid' (fun W => along_rt a b p W ha hb hp)
    have K := hid' (fun W => whole_rt 1 W (by omega) (by omega))
    have hne : (a.1 == b.1) = false ∨ ((a.1 == b.1) = true ∧ (a.2 == b.2) = false) := by
      by_cases h : a.1 = b.1
      · right; exact ⟨by simp [h], by simp; intro k; exact hab (Prod.ext h k)⟩
      · left; simp [h]
    have E0 : Hid (crs a b p ≠ 0 → onP p a b = false) := fun h => by rw [onP_false]; exact fun q => h q.1
    have E1 : Hid (crs a b p = 0 → onP p a b = (decide (0 ≤ alN (alP a b p) (alD a b)) && decide (alN (alP a b p) (alD a b) ≤ absI (alD a b)))) := fun h => by
      rw [Bool.eq_iff_iff, onP_iff, Bool.and_eq_true, decide_eq_true_iff, decide_eq_true_iff, al_on hab h]
    clear hp ha hb hab
    generalize onP p a b = R at *
    generalize crs a b p = X at *
    generalize alN (alP a b p) (alD a b) = N at *
    generalize absI (alD a b) = D at *
    obtain ⟨px, py⟩ := p
    obtain ⟨ax, ay⟩ := a
    obtain ⟨bx, by_⟩ := b
    simp only at hne
    have hF : Below w.heap.size w (((w.alloc (.cells #[.int .i32 px, .int .i32 py] 23)).alloc (.cells #[.int .i32 ax, .int .i32 ay] 23)).alloc (.cells #[.int .i32 bx, .int .i32 by_] 23)) := ((((Gr.refl _).alloc _).alloc _).alloc _).below
    have tp : TwoIs (((w.alloc (.cells #[.int .i32 px, .int .i32 py] 23)).alloc (.cells #[.int .i32 ax, .int .i32 ay] 23)).alloc (.cells #[.int .i32 bx, .int .i32 by_] 23)) w.heap.size px py := ⟨by go_simp, by go_simp⟩
    have ta : TwoIs (((w.alloc (.cells #[.int .i32 px, .int .i32 py] 23)).alloc (.cells #[.int .i32 ax, .int .i32 ay] 23)).alloc (.cells #[.int .i32 bx, .int .i32 by_] 23)) (w.heap.size + 1) ax ay := ⟨by go_simp, by go_simp⟩
    have tb : TwoIs (((w.alloc (.cells #[.int .i32 px, .int .i32 py] 23)).alloc (.cells #[.int .i32 ax, .int .i32 ay] 23)).alloc (.cells #[.int .i32 bx, .int .i32 by_] 23)) (w.heap.size + 1 + 1) bx by_ := ⟨by go_simp, by go_simp⟩
    show Calls Try.prog 20 #[pt px py, pt ax ay, pt bx by_] w _
    rcases hne with h1 | ⟨h1, h2⟩
    all_goals
      go_enter Try.func20, Try.ntmps20
      go_wp2_with fail
      refine (T.out _).mono ?_
      generalize ((w.alloc (.cells #[.int .i32 px, .int .i32 py] 23)).alloc (.cells #[.int .i32 ax, .int .i32 ay] 23)).alloc (.cells #[.int .i32 bx, .int .i32 by_] 23) = W at *
      rintro e w1 ⟨rfl, g1⟩
      replace hF := hF.trans (g1.mono hF.size)
      have p0 := below_cell tp.c0 g1
      have p1 := below_cell tp.c1 g1
      have a0 := below_cell ta.c0 g1
      have a1 := below_cell ta.c1 g1
      have b0 := below_cell tb.c0 g1
      have b1 := below_cell tb.c1 g1
      clear tp ta tb g1 T
      by_cases hX : X = 0
      · have E := hid' (E1.out hX)
        have hc : cmpI X 0 = 0 := by rw [hX]; rfl
        rw [hc]
        clear E0 E1 hX hc
        go_wp2_with fail
        refine (A.out _).mono ?_
        rintro e w2 ⟨z, rfl, hz, g2⟩
        obtain ⟨r1, o1, l1, c1, R1, O1, M1, C1, rfl, z1⟩ := hz.shape
        replace hF := hF.trans (g2.mono hF.size)
        clear hz g2 A p0 p1 a0 a1 b0 b1
        have gg : Gr w2 (w2.alloc (.cells #[.bool r1, .slice o1 l1 c1, .bool R1, .slice O1 M1 C1] 53)) := (Gr.refl _).alloc _
        have kq := Q4.new w2 (.bool r1) (.slice o1 l1 c1) (.bool R1) (.slice O1 M1 C1)
        replace z1 := hid' (z1.out.mono gg.below)
        replace hF := hF.trans (gg.below.mono hF.size)
        clear gg
        go_upto_region 6 with fail
        generalize w2.alloc (.cells #[.bool r1, .slice o1 l1 c1, .bool R1, .slice O1 M1 C1] 53) = Y at *
        generalize w2.heap.size = B7 at *
        have hS0 : Hid (SQ B7 (.bool r1) (.slice o1 l1 c1) (.bool R1) (.slice O1 M1 C1) Y.drew) := ⟨kq.c0, kq.c1, kq.c2, kq.c3⟩
        have zd := hid' (z1.out.mono (Below.refl _ _).drew)
        have hFd : Below w.heap.size w Y.drew := hF.drew
        clear kq hF z1
        have SG0 : ∀ CN, cmpI N 0 = CN → ∀ W, Rt W (.agg #[.bool r1, .slice o1 l1 c1, .bool R1, .slice O1 M1 C1]) N D 4 → Calls Try.prog 24 #[.agg #[.bool r1, .slice o1 l1 c1, .bool R1, .slice O1 M1 C1]] W fun e w' => e = .returned (.int .i64 CN) ∧ Below W.heap.size W w' := fun CN h W hr => by rw [← h]; exact rsign_rt _ N D 4 W hr
        rcases Int.lt_trichotomy N 0 with hs | hs | hs
        · have SG := hid' (SG0 (-1) (by unfold cmpI; rw [if_pos hs]))
          have E2 : Hid (R = false) := by unfold Hid; rw [E.out, decide_eq_false (by omega)]; rfl
          clear E SG0 hs K
          have x0 := hS0.out.1
          have x1 := hS0.out.2.1
          have x2 := hS0.out.2.2.1
          have x3 := hS0.out.2.2.2
          go_region_with (first | (go_at_call 24; refine (SG.out _ zd.out).mono ?_; rintro e y1 ⟨rfl, g1⟩; replace hFd := hFd.trans (g1.mono hFd.size)))
          all_goals
            go_wp2
            go_ret
            exact ⟨by rw [E2.out]; rfl, hFd⟩
        · have SG := hid' (SG0 0 (by unfold cmpI; rw [if_neg (by omega)]; rw [if_neg (by omega)]))
          have d2 : decide (0 ≤ N) = true := by simp; omega
          have d3 : Hid (decide (cmpI N D ≤ 0) = decide (N ≤ D)) := by unfold Hid; rw [cmp_le]
          have E2 : Hid (R = decide (cmpI N D ≤ 0)) := by unfold Hid; rw [d3.out, E.out, d2, Bool.true_and]
          clear d2 d3 E hs SG0
          go_region_held3 (SQ B7 (.bool r1) (.slice o1 l1 c1) (.bool R1) (.slice O1 M1 C1))
            (repeat (first | with_reducible exact hS3.out | with_reducible exact hS2.out | with_reducible exact hS1.out | with_reducible exact hS0.out))
            (first
              | (go_at_call 27; refine (rcmp_rt _ _ N D 1 1 4 2 _ zd.out zw.out (by omega)).mono ?_; rintro e y3 ⟨rfl, g3⟩; have hS3 : Hid (SQ B7 (.bool r1) (.slice o1 l1 c1) (.bool R1) (.slice O1 M1 C1) y3) := SQ.call hS2.out g3; replace hFd := hFd.trans (g3.mono hFd.size))
              | (go_at_call 26; refine (K.out _).mono ?_; rintro e y2 ⟨z, rfl, hz, g2⟩; obtain ⟨r2, o2, l2, c2, R2, O2, M2, C2, rfl, zw⟩ := hz.shape; clear hz; replace zd := hid' (zd.out.mono g2); have hS2 : Hid (SQ B7 (.bool r1) (.slice o1 l1 c1) (.bool R1) (.slice O1 M1 C1) y2) := SQ.call hS1.out g2; replace hFd := hFd.trans (g2.mono hFd.size))
              | (go_at_call 24; refine (SG.out _ zd.out).mono ?_; rintro e y1 ⟨rfl, g1⟩; replace zd := hid' (zd.out.mono g1); have hS1 : Hid (SQ B7 (.bool r1) (.slice o1 l1 c1) (.bool R1) (.slice O1 M1 C1) y1) := SQ.call hS0.out g1; replace hFd := hFd.trans (g1.mono hFd.size)))
          all_goals
            go_wp2
            go_ret
            exact ⟨by rw [E2.out]; rfl, hFd⟩
        · have SG := hid' (SG0 1 (by unfold cmpI; rw [if_neg (by omega)]; rw [if_pos (by omega)]))
          have d2 : decide (0 ≤ N) = true := by simp; omega
          have d3 : Hid (decide (cmpI N D ≤ 0) = decide (N ≤ D)) := by unfold Hid; rw [cmp_le]
          have E2 : Hid (R = decide (cmpI N D ≤ 0)) := by unfold Hid; rw [d3.out, E.out, d2, Bool.true_and]
          clear d2 d3 E hs SG0
          go_region_held3 (SQ B7 (.bool r1) (.slice o1 l1 c1) (.bool R1) (.slice O1 M1 C1))
            (repeat (first | with_reducible exact hS3.out | with_reducible exact hS2.out | with_reducible exact hS1.out | with_reducible exact hS0.out))
            (first
              | (go_at_call 27; refine (rcmp_rt _ _ N D 1 1 4 2 _ zd.out zw.out (by omega)).mono ?_; rintro e y3 ⟨rfl, g3⟩; have hS3 : Hid (SQ B7 (.bool r1) (.slice o1 l1 c1) (.bool R1) (.slice O1 M1 C1) y3) := SQ.call hS2.out g3; replace hFd := hFd.trans (g3.mono hFd.size))
              | (go_at_call 26; refine (K.out _).mono ?_; rintro e y2 ⟨z, rfl, hz, g2⟩; obtain ⟨r2, o2, l2, c2, R2, O2, M2, C2, rfl, zw⟩ := hz.shape; clear hz; replace zd := hid' (zd.out.mono g2); have hS2 : Hid (SQ B7 (.bool r1) (.slice o1 l1 c1) (.bool R1) (.slice O1 M1 C1) y2) := SQ.call hS1.out g2; replace hFd := hFd.trans (g2.mono hFd.size))
              | (go_at_call 24; refine (SG.out _ zd.out).mono ?_; rintro e y1 ⟨rfl, g1⟩; replace zd := hid' (zd.out.mono g1); have hS1 : Hid (SQ B7 (.bool r1) (.slice o1 l1 c1) (.bool R1) (.slice O1 M1 C1) y1) := SQ.call hS0.out g1; replace hFd := hFd.trans (g1.mono hFd.size)))
          all_goals
            go_wp2
            go_ret
            exact ⟨by rw [E2.out]; rfl, hFd⟩
      · have E := hid' (E0.out hX)
        have hc : (cmpI X 0 == 0) = false := by simp; intro q; exact hX ((cmpI_zero _ _).mp q)
        generalize cmpI X 0 = CX at *
        clear E0 E1 hX
        go_wp2
        go_ret
        exact ⟨by rw [E.out]; rfl, hF⟩
end Go.Proofs.Ytagabccaipfjeaa
