/- ShapeAlike's walk, on the lattice. -/
import Derived.Test.YtgcofpfjdplopaaGreatAl9J
namespace Go.Proofs.YtgcofpfjdplopaaGreat
section
set_option linter.unusedSimpArgs false
open Go.RowKit Go.Shelf Go.Sort

theorem pts1_new (w : World) (a : P2) (x : Obj) : Pts ((w.alloc (.cells #[.int .i32 a.1, .int .i32 a.2] 28)).alloc x) (some ⟨w.heap.size, 0, none⟩) [a] := by
  have k := (Bl.new w 28 #[.int .i32 a.1, .int .i32 a.2]).below ((Gr.refl _).alloc x).below
  intro i hi
  have : i = 0 := by simpa using hi
  subst this
  exact ⟨_, _, rfl, k.cell rfl, k.cell rfl⟩

theorem pts2_new (w : World) (a b : P2) (x : Obj) : Pts ((w.alloc (.cells #[.int .i32 a.1, .int .i32 a.2, .int .i32 b.1, .int .i32 b.2] 28)).alloc x) (some ⟨w.heap.size, 0, none⟩) [a, b] := by
  have k := (Bl.new w 28 #[.int .i32 a.1, .int .i32 a.2, .int .i32 b.1, .int .i32 b.2]).below ((Gr.refl _).alloc x).below
  intro i hi
  have : i = 0 ∨ i = 1 := by simp at hi; omega
  rcases this with rfl | rfl
  · exact ⟨_, _, rfl, k.cell rfl, k.cell rfl⟩
  · exact ⟨_, _, rfl, k.cell rfl, k.cell rfl⟩
theorem eqP (a p : P2) : decide (p = a) = (p.1 == a.1 && p.2 == a.2) := by
  rw [Bool.eq_iff_iff, decide_eq_true_iff, Bool.and_eq_true, beq_iff_eq, beq_iff_eq, Prod.ext_iff]
set_option maxRecDepth 20000 in
set_option maxHeartbeats 8000000 in
theorem alike_in (a b p q : P2) (s0 s1 s2 s3 : Value) (w : World) (la : lat a) (lb : lat b) (lp : lat p) (lq : lat q) :
    Calls Tryz.prog 8 #[pt a.1 a.2, pt b.1 b.2, .agg #[s0, s1, s2, s3, .int .i32 p.1, .int .i32 p.2, .int .i32 q.1, .int .i32 q.2]] w fun e w' => e = .returned (.bool true) ∧ Below w.heap.size w w' := by
  obtain ⟨W, hW⟩ : ∃ W, W = ((w.alloc (.cells #[.int .i32 a.1, .int .i32 a.2] 28)).alloc (.cells #[.int .i32 b.1, .int .i32 b.2] 28)).alloc (.cells #[s0, s1, s2, s3, .int .i32 p.1, .int .i32 p.2, .int .i32 q.1, .int .i32 q.2] 30) := ⟨_, rfl⟩
  have hX := hid' (Args.new a b p q s0 s1 s2 s3 w)
  have gb : Hid (Below w.heap.size w W) := by rw [hW]; exact ((((Gr.refl _).alloc _).alloc _).alloc _).below
  rw [← hW] at hX
  have C : Hid (∀ (x y : Int) w, Calls Tryz.prog 28 #[pt x y] w fun e w' => e = .returned (.bool (latP (x, y))) ∧ Gr w w') := rin6_any
  have WK := hid' works_any
  have hA : latP (a.1, a.2) = true := lat_inP la
  have hB : latP (b.1, b.2) = true := lat_inP lb
  have hP : latP (p.1, p.2) = true := lat_inP lp
  have hQ : latP (q.1, q.2) = true := lat_inP lq
  have L := hid' (And.intro (And.intro la lb) (And.intro lp lq))
  clear la lb lp lq
  obtain ⟨a0, a1, b0, b1, p0, p1, q0, q1⟩ := hX.out
  go_enter Tryz.func8, Tryz.ntmps8
  go_upto_region 1 with fail
  rw [← hW]
  clear hW
  go_upto_region 4 with (
    (go_at_call 28; refine (C.out _ _ _).mono ?_; rintro e w3 ⟨rfl, g3⟩; simp only [hA, hB, hP, hQ]; have hX := hid' (Args.mono hX.out g3.below); have gb := hid' (Below.trans gb.out (Below.mono g3.below gb.out.size)); obtain ⟨a0, a1, b0, b1, p0, p1, q0, q1⟩ := hX.out))
  obtain ⟨W4, hW4⟩ : ∃ W4, W4 = (w3.alloc (.cells #[.int .i32 a.1, .int .i32 a.2] 28)).alloc (.cells #[.int .u8 2, .slice (some ⟨w3.heap.size, 0, none⟩) 1 1, .slice none 0 0, .int .i32 0] 26) := ⟨_, rfl⟩
  rw [← hW4]
  have g4 : Below w3.heap.size w3 W4 := by rw [hW4]; exact (((Gr.refl _).alloc _).alloc _).below
  have kS : Bl W4 (w3.heap.size + 1) 26 #[.int .u8 2, .slice (some ⟨w3.heap.size, 0, none⟩) 1 1, .slice none 0 0, .int .i32 0] := by rw [hW4]; have := Bl.new (w3.alloc (.cells #[.int .i32 a.1, .int .i32 a.2] 28)) 26 #[.int .u8 2, .slice (some ⟨w3.heap.size, 0, none⟩) 1 1, .slice none 0 0, .int .i32 0]; rwa [World.size_alloc] at this
  have hD : Pts W4 (some ⟨w3.heap.size, 0, none⟩) [a] := by rw [hW4]; exact pts1_new _ _ _
  replace hX := hid' (hX.out.mono g4)
  replace gb := hid' (gb.out.trans (g4.mono gb.out.size))
  clear hW4 g4 a0 a1 b0 b1 p0 p1 q0 q1
  generalize w3.heap.size = B1 at *
  have Q15 : Hid (∀ d os, Calls Tryz.prog 15 #[shp 2 0 (some ⟨B1, 0, none⟩) none 1 1 0 0, pt p.1 p.2] (grow (redrawn W4 d) os) fun e w' => e = .returned (.bool (p.1 == a.1 && p.2 == a.2)) ∧ ∃ p : Regrown, w' = grow (redrawn W4 p.d) p.os) := fun d os => Calls.regrown_of (by rw [← eqP]; exact disc_cov L.out.1.1 L.out.2.1 (hD.mono (below_regrown W4 d os)))
  have Q17 : Hid (∀ d os, Calls Tryz.prog 17 #[shp 2 0 (some ⟨B1, 0, none⟩) none 1 1 0 0, pt p.1 p.2, pt q.1 q.2] (grow (redrawn W4 d) os) fun e w' => e = .returned (.bool (onP a p q)) ∧ ∃ p : Regrown, w' = grow (redrawn W4 p.d) p.os) := fun d os => Calls.regrown_of (disc_mee L.out.1.1 L.out.2.1 L.out.2.2 (hD.mono (below_regrown W4 d os)))
  have Q31 : Hid (∀ d os, Calls Tryz.prog 31 #[pt a.1 a.2, pt p.1 p.2, pt q.1 q.2] (grow (redrawn W4 d) os) fun e w' => e = .returned (.bool (onP a p q)) ∧ ∃ p : Regrown, w' = grow (redrawn W4 p.d) p.os) := fun d os => Calls.regrown_of ((on6_any a p q L.out.1.1 L.out.2.1 L.out.2.2 _).mono fun e w' h => ⟨h.1, h.2.below⟩)
  have s0' := fun d os => cell_regrown (kS.cell (i := 0) rfl) d os
  have s1' := fun d os => cell_regrown (kS.cell (i := 1) rfl) d os
  have s2' := fun d os => cell_regrown (kS.cell (i := 2) rfl) d os
  have s3' := fun d os => cell_regrown (kS.cell (i := 3) rfl) d os
  have a0 := fun d os => cell_regrown hX.out.a0 d os
  have a1 := fun d os => cell_regrown hX.out.a1 d os
  have p0 := fun d os => cell_regrown hX.out.p0 d os
  have p1 := fun d os => cell_regrown hX.out.p1 d os
  have q0 := fun d os => cell_regrown hX.out.q0 d os
  have q1 := fun d os => cell_regrown hX.out.q1 d os
  clear hD kS
  generalize onP a p q = F1 at *
  go_cut [60] (fun s w' => s = .bool false ∧ Hid (Below W4.heap.size W4 w'))
  case first =>
    by_cases hx : p.1 = a.1
    · by_cases hy : p.2 = a.2
      · have e15 : (p.1 == a.1 && p.2 == a.2) = true := by simp [hx, hy]
        rw [e15] at Q15
        rw [hx, hy] at Q15 Q17 Q31
        simp only [hx] at p0
        simp only [hy] at p1
        clear e15 hx hy
        refine wp_region_quiet_below (by kernel_rfl) (by kernel_rfl) ?_
        repeat (go_big_quiet_step (first | exact Q15.out _ _ | exact Q17.out _ _ | exact Q31.out _ _))
        refine wpQuiet_nil ?_
        rintro _ ⟨⟨dq, osq⟩, rfl⟩
        go_wp2_with fail
        go_meet
        exact ⟨by simp, below_regrown W4 dq osq⟩
      · have hy' : (p.2 == a.2) = false := by simpa using hy
        have e15 : (p.1 == a.1 && p.2 == a.2) = false := by simp [hy']
        rw [e15] at Q15
        rw [hx] at Q15 Q17 Q31
        simp only [hx] at p0
        clear e15 hx hy
        refine wp_region_quiet_below (by kernel_rfl) (by kernel_rfl) ?_
        repeat (go_big_quiet_step (first | exact Q15.out _ _ | exact Q17.out _ _ | exact Q31.out _ _))
        refine wpQuiet_nil ?_
        rintro _ ⟨⟨dq, osq⟩, rfl⟩
        go_wp2_with fail
        go_meet
        exact ⟨by simp, below_regrown W4 dq osq⟩
    · have hx' : (p.1 == a.1) = false := by simpa using hx
      have e15 : (p.1 == a.1 && p.2 == a.2) = false := by simp [hx']
      rw [e15] at Q15
      clear e15 hx
      refine wp_region_quiet_below (by kernel_rfl) (by kernel_rfl) ?_
      repeat (go_big_quiet_step (first | exact Q15.out _ _ | exact Q17.out _ _ | exact Q31.out _ _))
      refine wpQuiet_nil ?_
      rintro _ ⟨⟨dq, osq⟩, rfl⟩
      go_wp2_with fail
      go_meet
      exact ⟨by simp, below_regrown W4 dq osq⟩
  case rest =>
    obtain ⟨rfl, hc⟩ := hcut
    replace hX := hid' (hX.out.mono hc.out)
    replace gb := hid' (gb.out.trans (hc.out.mono gb.out.size))
    clear Q15 Q17 Q31 s0' s1' s2' s3' a0 a1 p0 p1 q0 q1 hc hA hB hP hQ C
    obtain ⟨ax, ay⟩ := a
    obtain ⟨bx, by_⟩ := b
    dsimp only at *
    rcases Int.lt_trichotomy ax bx with hx | hx | hx <;> rcases Int.lt_trichotomy ay by_ with hy | hy | hy
    · skip
      have hxb : (ax == bx) = false := by simp; omega
      have hx2 : ¬ bx < ax := by omega
      have hx3 : ¬ bx ≤ ax := by omega
      have hx4 : ax ≤ bx := by omega
      have hyb : (ay == by_) = false := by simp; omega
      have hy2 : ¬ by_ < ay := by omega
      have hy3 : ¬ by_ ≤ ay := by omega
      have hy4 : ay ≤ by_ := by omega
      obtain ⟨a0, a1, b0, b1, p0, p1, q0, q1⟩ := hX.out
      dsimp only at a0 a1 b0 b1
      go_upto_region 8 with fail
      obtain ⟨W8, hW8⟩ : ∃ W8, W8 = (wc.alloc (.cells #[.int .i32 ax, .int .i32 ay, .int .i32 bx, .int .i32 by_] 28)).alloc (.cells #[.int .u8 4, .slice (some ⟨wc.heap.size, 0, none⟩) 2 2, .slice none 0 0, .int .i32 0] 26) := ⟨_, rfl⟩
      rw [← hW8]
      have g8 : Below wc.heap.size wc W8 := by rw [hW8]; exact (((Gr.refl _).alloc _).alloc _).below
      have kS : Bl W8 (wc.heap.size + 1) 26 #[.int .u8 4, .slice (some ⟨wc.heap.size, 0, none⟩) 2 2, .slice none 0 0, .int .i32 0] := by rw [hW8]; have := Bl.new (wc.alloc (.cells #[.int .i32 ax, .int .i32 ay, .int .i32 bx, .int .i32 by_] 28)) 26 #[.int .u8 4, .slice (some ⟨wc.heap.size, 0, none⟩) 2 2, .slice none 0 0, .int .i32 0]; rwa [World.size_alloc] at this
      have hD : Pts W8 (some ⟨wc.heap.size, 0, none⟩) [((ax, ay) : P2), ((bx, by_) : P2)] := by rw [hW8]; exact pts2_new _ ((ax, ay) : P2) ((bx, by_) : P2) _
      replace hX := hid' (hX.out.mono g8)
      replace gb := hid' (gb.out.trans (g8.mono gb.out.size))
      clear hW8 g8 a0 a1 b0 b1 p0 p1 q0 q1
      generalize wc.heap.size = B2 at *
      have hab : ((ax, ay) : P2) ≠ ((bx, by_) : P2) := by intro e; rw [Prod.ext_iff] at e; simp at e; omega
      have Q15 : Hid (∀ d os, Calls Tryz.prog 15 #[shp 4 0 (some ⟨B2, 0, none⟩) none 2 2 0 0, pt p.1 p.2] (grow (redrawn W8 d) os) fun e w' => e = .returned (.bool (onP p ((ax, ay) : P2) ((bx, by_) : P2))) ∧ ∃ p : Regrown, w' = grow (redrawn W8 p.d) p.os) := fun d os => Calls.regrown_of (corr_cov hab L.out.1.1 L.out.1.2 L.out.2.1 (hD.mono (below_regrown W8 d os)))
      have Q17 : Hid (∀ d os, Calls Tryz.prog 17 #[shp 4 0 (some ⟨B2, 0, none⟩) none 2 2 0 0, pt p.1 p.2, pt q.1 q.2] (grow (redrawn W8 d) os) fun e w' => e = .returned (.bool (touch6 ((ax, ay) : P2) ((bx, by_) : P2) p q)) ∧ ∃ p : Regrown, w' = grow (redrawn W8 p.d) p.os) := fun d os => Calls.regrown_of (corr_mee hab L.out.1.1 L.out.1.2 L.out.2.1 L.out.2.2 (hD.mono (below_regrown W8 d os)))
      have Q31 : Hid (∀ d os, Calls Tryz.prog 31 #[pt p.1 p.2, pt ax ay, pt bx by_] (grow (redrawn W8 d) os) fun e w' => e = .returned (.bool (onP p ((ax, ay) : P2) ((bx, by_) : P2))) ∧ ∃ p : Regrown, w' = grow (redrawn W8 p.d) p.os) := fun d os => Calls.regrown_of ((on6_any p ((ax, ay) : P2) ((bx, by_) : P2) L.out.2.1 L.out.1.1 L.out.1.2 _).mono fun e w' h => ⟨h.1, h.2.below⟩)
      have Q32 : Hid (∀ d os, Calls Tryz.prog 32 #[pt ax ay, pt bx by_, pt p.1 p.2, pt q.1 q.2] (grow (redrawn W8 d) os) fun e w' => e = .returned (.bool (touch6 ((ax, ay) : P2) ((bx, by_) : P2) p q)) ∧ ∃ p : Regrown, w' = grow (redrawn W8 p.d) p.os) := fun d os => Calls.regrown_of ((touch6_any ((ax, ay) : P2) ((bx, by_) : P2) p q L.out.1.1 L.out.1.2 L.out.2.1 L.out.2.2 _).mono fun e w' h => ⟨h.1, h.2.below⟩)
      clear hD hab
      have s0' := fun d os => cell_regrown (kS.cell (i := 0) rfl) d os
      have s1' := fun d os => cell_regrown (kS.cell (i := 1) rfl) d os
      have s2' := fun d os => cell_regrown (kS.cell (i := 2) rfl) d os
      have s3' := fun d os => cell_regrown (kS.cell (i := 3) rfl) d os
      have a0' := fun d os => cell_regrown hX.out.a0 d os
      have a1' := fun d os => cell_regrown hX.out.a1 d os
      have b0' := fun d os => cell_regrown hX.out.b0 d os
      have b1' := fun d os => cell_regrown hX.out.b1 d os
      have p0' := fun d os => cell_regrown hX.out.p0 d os
      have p1' := fun d os => cell_regrown hX.out.p1 d os
      have q0' := fun d os => cell_regrown hX.out.q0 d os
      have q1' := fun d os => cell_regrown hX.out.q1 d os
      dsimp only at a0' a1' b0' b1'
      clear kS
      generalize onP p ((ax, ay) : P2) ((bx, by_) : P2) = F1 at *
      generalize touch6 ((ax, ay) : P2) ((bx, by_) : P2) p q = F2 at *
      refine wp_region_quiet_below (by kernel_rfl) (by kernel_rfl) ?_
      repeat (go_big_quiet_step (first | exact Q15.out _ _ | exact Q17.out _ _ | exact Q31.out _ _ | exact Q32.out _ _))
      refine wpQuiet_nil ?_
      rintro _ ⟨⟨dq, osq⟩, rfl⟩
      have hc := below_regrown W8 dq osq
      generalize grow (redrawn W8 dq) osq = wd at *
      replace hX := hid' (hX.out.mono hc)
      replace gb := hid' (gb.out.trans (hc.mono gb.out.size))
      clear Q15 Q17 Q31 Q32 s0' s1' s2' s3' a0' a1' b0' b1' p0' p1' q0' q1' hc
      obtain ⟨a0, a1, b0, b1, p0, p1, q0, q1⟩ := hX.out
      dsimp only at a0 a1 b0 b1
      go_upto_region 11 with fail
      obtain ⟨We, hWe⟩ : ∃ We, We = wd.alloc (.cells #[.int .i32 ax, .int .i32 ay] 28) := ⟨_, rfl⟩
      rw [← hWe]
      have gWe : Below wd.heap.size wd We := by rw [hWe]; exact ((Gr.refl _).alloc _).below
      replace hX := hid' (hX.out.mono gWe)
      replace gb := hid' (gb.out.trans (gWe.mono gb.out.size))
      clear a0 a1 b0 b1 p0 p1 q0 q1
      obtain ⟨a0, a1, b0, b1, p0, p1, q0, q1⟩ := hX.out
      dsimp only at a0 a1 b0 b1
      have kL : Bl We wd.heap.size 28 #[.int .i32 ax, .int .i32 ay] := by rw [hWe]; exact Bl.new _ _ _
      have eB : We.heap.size = wd.heap.size + 1 := by rw [hWe]; simp
      clear hWe gWe
      go_upto_region 12 with fail
      obtain ⟨Wf, hWf⟩ : ∃ Wf, Wf = We.alloc (.cells #[.int .i32 bx, .int .i32 by_] 28) := ⟨_, rfl⟩
      rw [← hWf]
      have gWf : Below We.heap.size We Wf := by rw [hWf]; exact ((Gr.refl _).alloc _).below
      replace hX := hid' (hX.out.mono gWf)
      replace gb := hid' (gb.out.trans (gWf.mono gb.out.size))
      replace kL := kL.below gWf
      clear a0 a1 b0 b1 p0 p1 q0 q1
      obtain ⟨a0, a1, b0, b1, p0, p1, q0, q1⟩ := hX.out
      dsimp only at a0 a1 b0 b1
      have kH : Bl Wf We.heap.size 28 #[.int .i32 bx, .int .i32 by_] := by rw [hWf]; exact Bl.new _ _ _
      rw [eB] at kH
      clear hWf gWf eB
      generalize wd.heap.size = Bw at *
      have l0 := kL.cell (i := 0) rfl
      have l1 := kL.cell (i := 1) rfl
      have h0 := kH.cell (i := 0) rfl
      have h1 := kH.cell (i := 1) rfl
      go_upto_region 13 with fail
      obtain ⟨Wg, hWg⟩ : ∃ Wg, Wg = (Wf.alloc (.cells #[.int .i32 ax, .int .i32 ay, .int .i32 bx, .int .i32 by_] 28)).alloc (.cells #[.int .u8 3, .slice (some ⟨Wf.heap.size, 0, none⟩) 2 2, .slice none 0 0, .int .i32 0] 26) := ⟨_, rfl⟩
      rw [← hWg]
      have gg : Below Wf.heap.size Wf Wg := by rw [hWg]; exact (((Gr.refl _).alloc _).alloc _).below
      have kS : Bl Wg (Wf.heap.size + 1) 26 #[.int .u8 3, .slice (some ⟨Wf.heap.size, 0, none⟩) 2 2, .slice none 0 0, .int .i32 0] := by rw [hWg]; have := Bl.new (Wf.alloc (.cells #[.int .i32 ax, .int .i32 ay, .int .i32 bx, .int .i32 by_] 28)) 26 #[.int .u8 3, .slice (some ⟨Wf.heap.size, 0, none⟩) 2 2, .slice none 0 0, .int .i32 0]; rwa [World.size_alloc] at this
      have hD : Pts Wg (some ⟨Wf.heap.size, 0, none⟩) [((ax, ay) : P2), ((bx, by_) : P2)] := by rw [hWg]; exact pts2_new _ ((ax, ay) : P2) ((bx, by_) : P2) _
      replace hX := hid' (hX.out.mono gg)
      replace gb := hid' (gb.out.trans (gg.mono gb.out.size))
      replace kL := kL.below gg
      replace kH := kH.below gg
      clear hWg gg a0 a1 b0 b1 p0 p1 q0 q1 l0 l1 h0 h1
      generalize Wf.heap.size = B3 at *
      have hll : lat ((ax, ay) : P2) ∧ lat ((bx, by_) : P2) := by have := L.out.1; unfold lat at *; simp only at *; omega
      have C14 : Hid (Calls Tryz.prog 14 #[shp 3 0 (some ⟨B3, 0, none⟩) none 2 2 0 0] Wg fun e w' => e = .returned (.int .i64 0) ∧ Below Wg.heap.size Wg w') := box_chk hll.1 hll.2 (by show ax ≤ bx; omega) (by show ay ≤ by_; omega) hD
      have s0' := kS.cell (i := 0) rfl
      have s1' := kS.cell (i := 1) rfl
      have s2' := kS.cell (i := 2) rfl
      have s3' := kS.cell (i := 3) rfl
      go_upto_region 17 with (go_at_call 14; refine C14.out.mono ?_; rintro e wh ⟨rfl, gh⟩; have l0 := (kL.below gh).cell (i := 0) rfl; have l1 := (kL.below gh).cell (i := 1) rfl; have h0 := (kH.below gh).cell (i := 0) rfl; have h1 := (kH.below gh).cell (i := 1) rfl)
      replace hX := hid' (hX.out.mono gh)
      replace gb := hid' (gb.out.trans (gh.mono gb.out.size))
      replace kL := kL.below gh
      replace kH := kH.below gh
      replace kS := kS.below gh
      replace hD := hD.mono gh
      clear C14 gh s0' s1' s2' s3'
      go_upto_region 18 with fail
      obtain ⟨Wi, hWi⟩ : ∃ Wi, Wi = (wh.alloc (.cells #[.int .i32 ax, .int .i32 ay, .int .i32 bx, .int .i32 ay, .int .i32 bx, .int .i32 by_, .int .i32 ax, .int .i32 by_] 28)).alloc (.cells #[.int .u8 1, .slice (some ⟨wh.heap.size, 0, none⟩) 4 4, .slice none 0 0, .int .i32 0] 26) := ⟨_, rfl⟩
      rw [← hWi]
      have gi : Below wh.heap.size wh Wi := by rw [hWi]; exact (((Gr.refl _).alloc _).alloc _).below
      have kT : Bl Wi (wh.heap.size + 1) 26 #[.int .u8 1, .slice (some ⟨wh.heap.size, 0, none⟩) 4 4, .slice none 0 0, .int .i32 0] := by rw [hWi]; have := Bl.new (wh.alloc (.cells #[.int .i32 ax, .int .i32 ay, .int .i32 bx, .int .i32 ay, .int .i32 bx, .int .i32 by_, .int .i32 ax, .int .i32 by_] 28)) 26 #[.int .u8 1, .slice (some ⟨wh.heap.size, 0, none⟩) 4 4, .slice none 0 0, .int .i32 0]; rwa [World.size_alloc] at this
      have hE : Pts Wi (some ⟨wh.heap.size, 0, none⟩) (crnL ((ax, ay) : P2) ((bx, by_) : P2)) := by rw [hWi]; exact (eight_pts (Bl.new wh 28 _)).mono ((Gr.refl _).alloc _).below
      replace hX := hid' (hX.out.mono gi)
      replace gb := hid' (gb.out.trans (gi.mono gb.out.size))
      replace kS := kS.below gi
      replace hD := hD.mono gi
      clear hWi gi l0 l1 h0 h1 kL kH
      generalize wh.heap.size = B4 at *
      have Q14 : Hid (∀ d os, Calls Tryz.prog 14 #[shp 1 0 (some ⟨B4, 0, none⟩) none 4 4 0 0] (grow (redrawn Wi d) os) fun e w' => e = .returned (.int .i64 0) ∧ ∃ p : Regrown, w' = grow (redrawn Wi p.d) p.os) := fun d os => Calls.regrown_of (pol_chk hll.1 hll.2 (by show ax < bx; omega) (by show ay < by_; omega) (hE.mono (below_regrown Wi d os)))
      have Q15 : Hid (∀ (k : Int) (B m : Nat) d os, ((k = 3 ∧ B = B3 ∧ m = 2) ∨ (k = 1 ∧ B = B4 ∧ m = 4)) → Calls Tryz.prog 15 #[shp k 0 (some ⟨B, 0, none⟩) none m m 0 0, pt p.1 p.2] (grow (redrawn Wi d) os) fun e w' => e = .returned (.bool (hasB ax ay bx by_ p.1 p.2)) ∧ ∃ p : Regrown, w' = grow (redrawn Wi p.d) p.os) := fun k B m d os hk => by
        rcases hk with ⟨rfl, rfl, rfl⟩ | ⟨rfl, rfl, rfl⟩
        · exact Calls.regrown_of (box_cov hll.1 hll.2 (by show ax ≤ bx; omega) (by show ay ≤ by_; omega) (hD.mono (below_regrown Wi d os)))
        · exact Calls.regrown_of (pol_cov hll.1 hll.2 L.out.2.1 (by show ax < bx; omega) (by show ay < by_; omega) (hE.mono (below_regrown Wi d os)))
      have Q17 : Hid (∀ (k : Int) (B m : Nat) d os, ((k = 3 ∧ B = B3 ∧ m = 2) ∨ (k = 1 ∧ B = B4 ∧ m = 4)) → Calls Tryz.prog 17 #[shp k 0 (some ⟨B, 0, none⟩) none m m 0 0, pt p.1 p.2, pt q.1 q.2] (grow (redrawn Wi d) os) fun e w' => e = .returned (.bool (rectM ((ax, ay) : P2) ((bx, by_) : P2) p q)) ∧ ∃ p : Regrown, w' = grow (redrawn Wi p.d) p.os) := fun k B m d os hk => by
        rcases hk with ⟨rfl, rfl, rfl⟩ | ⟨rfl, rfl, rfl⟩
        · exact Calls.regrown_of (box_mee hll.1 hll.2 (by show ax ≤ bx; omega) (by show ay ≤ by_; omega) (hD.mono (below_regrown Wi d os)))
        · exact Calls.regrown_of (pol_mee hll.1 hll.2 L.out.2.1 (by show ax < bx; omega) (by show ay < by_; omega) (hE.mono (below_regrown Wi d os)))
      have Q13 : Hid (∀ d os, Calls Tryz.prog 13 #[] (grow (redrawn Wi d) os) fun e w' => e = .returned (.bool true) ∧ ∃ p : Regrown, w' = grow (redrawn Wi p.d) p.os) := fun d os => Calls.regrown_of ((works_any _).mono fun e w' h => ⟨h.1, h.2.below⟩)
      have s0' := fun d os => cell_regrown (kS.cell (i := 0) rfl) d os
      have s1' := fun d os => cell_regrown (kS.cell (i := 1) rfl) d os
      have s2' := fun d os => cell_regrown (kS.cell (i := 2) rfl) d os
      have s3' := fun d os => cell_regrown (kS.cell (i := 3) rfl) d os
      have t0' := fun d os => cell_regrown (kT.cell (i := 0) rfl) d os
      have t1' := fun d os => cell_regrown (kT.cell (i := 1) rfl) d os
      have t2' := fun d os => cell_regrown (kT.cell (i := 2) rfl) d os
      have t3' := fun d os => cell_regrown (kT.cell (i := 3) rfl) d os
      have p0' := fun d os => cell_regrown hX.out.p0 d os
      have p1' := fun d os => cell_regrown hX.out.p1 d os
      have q0' := fun d os => cell_regrown hX.out.q0 d os
      have q1' := fun d os => cell_regrown hX.out.q1 d os
      clear hD hE kS kT hll
      generalize hasB ax ay bx by_ p.1 p.2 = F3 at *
      generalize rectM ((ax, ay) : P2) ((bx, by_) : P2) p q = F4 at *
      refine wp_region_quiet_below (by kernel_rfl) (by kernel_rfl) ?_
      repeat (go_big_quiet_step (first | exact Q14.out _ _ | exact Q15.out _ _ _ _ _ (by simp) | exact Q17.out _ _ _ _ _ (by simp) | exact Q13.out _ _))
      refine wpQuiet_nil ?_
      rintro _ ⟨⟨dq, osq⟩, rfl⟩
      have hc := hid' (below_regrown Wi dq osq)
      go_wp2
      go_ret
      exact ⟨by simp, gb.out.trans (hc.out.mono gb.out.size)⟩
    · skip
      subst hy
      have hxb : (ax == bx) = false := by simp; omega
      have hx2 : ¬ bx < ax := by omega
      have hx3 : ¬ bx ≤ ax := by omega
      have hx4 : ax ≤ bx := by omega
      obtain ⟨a0, a1, b0, b1, p0, p1, q0, q1⟩ := hX.out
      dsimp only at a0 a1 b0 b1
      go_upto_region 8 with fail
      obtain ⟨W8, hW8⟩ : ∃ W8, W8 = (wc.alloc (.cells #[.int .i32 ax, .int .i32 ay, .int .i32 bx, .int .i32 ay] 28)).alloc (.cells #[.int .u8 4, .slice (some ⟨wc.heap.size, 0, none⟩) 2 2, .slice none 0 0, .int .i32 0] 26) := ⟨_, rfl⟩
      rw [← hW8]
      have g8 : Below wc.heap.size wc W8 := by rw [hW8]; exact (((Gr.refl _).alloc _).alloc _).below
      have kS : Bl W8 (wc.heap.size + 1) 26 #[.int .u8 4, .slice (some ⟨wc.heap.size, 0, none⟩) 2 2, .slice none 0 0, .int .i32 0] := by rw [hW8]; have := Bl.new (wc.alloc (.cells #[.int .i32 ax, .int .i32 ay, .int .i32 bx, .int .i32 ay] 28)) 26 #[.int .u8 4, .slice (some ⟨wc.heap.size, 0, none⟩) 2 2, .slice none 0 0, .int .i32 0]; rwa [World.size_alloc] at this
      have hD : Pts W8 (some ⟨wc.heap.size, 0, none⟩) [((ax, ay) : P2), ((bx, ay) : P2)] := by rw [hW8]; exact pts2_new _ ((ax, ay) : P2) ((bx, ay) : P2) _
      replace hX := hid' (hX.out.mono g8)
      replace gb := hid' (gb.out.trans (g8.mono gb.out.size))
      clear hW8 g8 a0 a1 b0 b1 p0 p1 q0 q1
      generalize wc.heap.size = B2 at *
      have hab : ((ax, ay) : P2) ≠ ((bx, ay) : P2) := by intro e; rw [Prod.ext_iff] at e; simp at e; omega
      have Q15 : Hid (∀ d os, Calls Tryz.prog 15 #[shp 4 0 (some ⟨B2, 0, none⟩) none 2 2 0 0, pt p.1 p.2] (grow (redrawn W8 d) os) fun e w' => e = .returned (.bool (onP p ((ax, ay) : P2) ((bx, ay) : P2))) ∧ ∃ p : Regrown, w' = grow (redrawn W8 p.d) p.os) := fun d os => Calls.regrown_of (corr_cov hab L.out.1.1 L.out.1.2 L.out.2.1 (hD.mono (below_regrown W8 d os)))
      have Q17 : Hid (∀ d os, Calls Tryz.prog 17 #[shp 4 0 (some ⟨B2, 0, none⟩) none 2 2 0 0, pt p.1 p.2, pt q.1 q.2] (grow (redrawn W8 d) os) fun e w' => e = .returned (.bool (touch6 ((ax, ay) : P2) ((bx, ay) : P2) p q)) ∧ ∃ p : Regrown, w' = grow (redrawn W8 p.d) p.os) := fun d os => Calls.regrown_of (corr_mee hab L.out.1.1 L.out.1.2 L.out.2.1 L.out.2.2 (hD.mono (below_regrown W8 d os)))
      have Q31 : Hid (∀ d os, Calls Tryz.prog 31 #[pt p.1 p.2, pt ax ay, pt bx ay] (grow (redrawn W8 d) os) fun e w' => e = .returned (.bool (onP p ((ax, ay) : P2) ((bx, ay) : P2))) ∧ ∃ p : Regrown, w' = grow (redrawn W8 p.d) p.os) := fun d os => Calls.regrown_of ((on6_any p ((ax, ay) : P2) ((bx, ay) : P2) L.out.2.1 L.out.1.1 L.out.1.2 _).mono fun e w' h => ⟨h.1, h.2.below⟩)
      have Q32 : Hid (∀ d os, Calls Tryz.prog 32 #[pt ax ay, pt bx ay, pt p.1 p.2, pt q.1 q.2] (grow (redrawn W8 d) os) fun e w' => e = .returned (.bool (touch6 ((ax, ay) : P2) ((bx, ay) : P2) p q)) ∧ ∃ p : Regrown, w' = grow (redrawn W8 p.d) p.os) := fun d os => Calls.regrown_of ((touch6_any ((ax, ay) : P2) ((bx, ay) : P2) p q L.out.1.1 L.out.1.2 L.out.2.1 L.out.2.2 _).mono fun e w' h => ⟨h.1, h.2.below⟩)
      clear hD hab
      have s0' := fun d os => cell_regrown (kS.cell (i := 0) rfl) d os
      have s1' := fun d os => cell_regrown (kS.cell (i := 1) rfl) d os
      have s2' := fun d os => cell_regrown (kS.cell (i := 2) rfl) d os
      have s3' := fun d os => cell_regrown (kS.cell (i := 3) rfl) d os
      have a0' := fun d os => cell_regrown hX.out.a0 d os
      have a1' := fun d os => cell_regrown hX.out.a1 d os
      have b0' := fun d os => cell_regrown hX.out.b0 d os
      have b1' := fun d os => cell_regrown hX.out.b1 d os
      have p0' := fun d os => cell_regrown hX.out.p0 d os
      have p1' := fun d os => cell_regrown hX.out.p1 d os
      have q0' := fun d os => cell_regrown hX.out.q0 d os
      have q1' := fun d os => cell_regrown hX.out.q1 d os
      dsimp only at a0' a1' b0' b1'
      clear kS
      generalize onP p ((ax, ay) : P2) ((bx, ay) : P2) = F1 at *
      generalize touch6 ((ax, ay) : P2) ((bx, ay) : P2) p q = F2 at *
      refine wp_region_quiet_below (by kernel_rfl) (by kernel_rfl) ?_
      repeat (go_big_quiet_step (first | exact Q15.out _ _ | exact Q17.out _ _ | exact Q31.out _ _ | exact Q32.out _ _))
      refine wpQuiet_nil ?_
      rintro _ ⟨⟨dq, osq⟩, rfl⟩
      have hc := below_regrown W8 dq osq
      generalize grow (redrawn W8 dq) osq = wd at *
      replace hX := hid' (hX.out.mono hc)
      replace gb := hid' (gb.out.trans (hc.mono gb.out.size))
      clear Q15 Q17 Q31 Q32 s0' s1' s2' s3' a0' a1' b0' b1' p0' p1' q0' q1' hc
      obtain ⟨a0, a1, b0, b1, p0, p1, q0, q1⟩ := hX.out
      dsimp only at a0 a1 b0 b1
      go_upto_region 11 with fail
      obtain ⟨We, hWe⟩ : ∃ We, We = wd.alloc (.cells #[.int .i32 ax, .int .i32 ay] 28) := ⟨_, rfl⟩
      rw [← hWe]
      have gWe : Below wd.heap.size wd We := by rw [hWe]; exact ((Gr.refl _).alloc _).below
      replace hX := hid' (hX.out.mono gWe)
      replace gb := hid' (gb.out.trans (gWe.mono gb.out.size))
      clear a0 a1 b0 b1 p0 p1 q0 q1
      obtain ⟨a0, a1, b0, b1, p0, p1, q0, q1⟩ := hX.out
      dsimp only at a0 a1 b0 b1
      have kL : Bl We wd.heap.size 28 #[.int .i32 ax, .int .i32 ay] := by rw [hWe]; exact Bl.new _ _ _
      have eB : We.heap.size = wd.heap.size + 1 := by rw [hWe]; simp
      clear hWe gWe
      go_upto_region 12 with fail
      obtain ⟨Wf, hWf⟩ : ∃ Wf, Wf = We.alloc (.cells #[.int .i32 bx, .int .i32 ay] 28) := ⟨_, rfl⟩
      rw [← hWf]
      have gWf : Below We.heap.size We Wf := by rw [hWf]; exact ((Gr.refl _).alloc _).below
      replace hX := hid' (hX.out.mono gWf)
      replace gb := hid' (gb.out.trans (gWf.mono gb.out.size))
      replace kL := kL.below gWf
      clear a0 a1 b0 b1 p0 p1 q0 q1
      obtain ⟨a0, a1, b0, b1, p0, p1, q0, q1⟩ := hX.out
      dsimp only at a0 a1 b0 b1
      have kH : Bl Wf We.heap.size 28 #[.int .i32 bx, .int .i32 ay] := by rw [hWf]; exact Bl.new _ _ _
      rw [eB] at kH
      clear hWf gWf eB
      generalize wd.heap.size = Bw at *
      have l0 := kL.cell (i := 0) rfl
      have l1 := kL.cell (i := 1) rfl
      have h0 := kH.cell (i := 0) rfl
      have h1 := kH.cell (i := 1) rfl
      go_upto_region 13 with fail
      obtain ⟨Wg, hWg⟩ : ∃ Wg, Wg = (Wf.alloc (.cells #[.int .i32 ax, .int .i32 ay, .int .i32 bx, .int .i32 ay] 28)).alloc (.cells #[.int .u8 3, .slice (some ⟨Wf.heap.size, 0, none⟩) 2 2, .slice none 0 0, .int .i32 0] 26) := ⟨_, rfl⟩
      rw [← hWg]
      have gg : Below Wf.heap.size Wf Wg := by rw [hWg]; exact (((Gr.refl _).alloc _).alloc _).below
      have kS : Bl Wg (Wf.heap.size + 1) 26 #[.int .u8 3, .slice (some ⟨Wf.heap.size, 0, none⟩) 2 2, .slice none 0 0, .int .i32 0] := by rw [hWg]; have := Bl.new (Wf.alloc (.cells #[.int .i32 ax, .int .i32 ay, .int .i32 bx, .int .i32 ay] 28)) 26 #[.int .u8 3, .slice (some ⟨Wf.heap.size, 0, none⟩) 2 2, .slice none 0 0, .int .i32 0]; rwa [World.size_alloc] at this
      have hD : Pts Wg (some ⟨Wf.heap.size, 0, none⟩) [((ax, ay) : P2), ((bx, ay) : P2)] := by rw [hWg]; exact pts2_new _ ((ax, ay) : P2) ((bx, ay) : P2) _
      replace hX := hid' (hX.out.mono gg)
      replace gb := hid' (gb.out.trans (gg.mono gb.out.size))
      replace kL := kL.below gg
      replace kH := kH.below gg
      clear hWg gg a0 a1 b0 b1 p0 p1 q0 q1 l0 l1 h0 h1
      generalize Wf.heap.size = B3 at *
      have hll : lat ((ax, ay) : P2) ∧ lat ((bx, ay) : P2) := by have := L.out.1; unfold lat at *; simp only at *; omega
      have C14 : Hid (Calls Tryz.prog 14 #[shp 3 0 (some ⟨B3, 0, none⟩) none 2 2 0 0] Wg fun e w' => e = .returned (.int .i64 0) ∧ Below Wg.heap.size Wg w') := box_chk hll.1 hll.2 (by show ax ≤ bx; omega) (by show ay ≤ ay; omega) hD
      have s0' := kS.cell (i := 0) rfl
      have s1' := kS.cell (i := 1) rfl
      have s2' := kS.cell (i := 2) rfl
      have s3' := kS.cell (i := 3) rfl
      go_upto_region 16 with (go_at_call 14; refine C14.out.mono ?_; rintro e wh ⟨rfl, gh⟩; have l0 := (kL.below gh).cell (i := 0) rfl; have l1 := (kL.below gh).cell (i := 1) rfl; have h0 := (kH.below gh).cell (i := 0) rfl; have h1 := (kH.below gh).cell (i := 1) rfl)
      replace hX := hid' (hX.out.mono gh)
      replace gb := hid' (gb.out.trans (gh.mono gb.out.size))
      replace kL := kL.below gh
      replace kH := kH.below gh
      replace kS := kS.below gh
      replace hD := hD.mono gh
      clear C14 gh s0' s1' s2' s3'
      clear l0 l1 h0 h1
      have Q15 : Hid (∀ d os, Calls Tryz.prog 15 #[shp 3 0 (some ⟨B3, 0, none⟩) none 2 2 0 0, pt p.1 p.2] (grow (redrawn wh d) os) fun e w' => e = .returned (.bool (onP p ((ax, ay) : P2) ((bx, ay) : P2))) ∧ ∃ p : Regrown, w' = grow (redrawn wh p.d) p.os) := fun d os => Calls.regrown_of (by rw [← has_line (a := ((ax, ay) : P2)) (b := ((bx, ay) : P2)) (p := p) (by show ax ≤ bx; omega) (by show ay ≤ ay; omega) (by show ax = bx ∨ ay = ay; omega)]; exact box_cov hll.1 hll.2 (by show ax ≤ bx; omega) (by show ay ≤ ay; omega) (hD.mono (below_regrown wh d os)))
      have Q31 : Hid (∀ d os, Calls Tryz.prog 31 #[pt p.1 p.2, pt ax ay, pt bx ay] (grow (redrawn wh d) os) fun e w' => e = .returned (.bool (onP p ((ax, ay) : P2) ((bx, ay) : P2))) ∧ ∃ p : Regrown, w' = grow (redrawn wh p.d) p.os) := fun d os => Calls.regrown_of ((on6_any p ((ax, ay) : P2) ((bx, ay) : P2) L.out.2.1 hll.1 hll.2 _).mono fun e w' h => ⟨h.1, h.2.below⟩)
      have Q13 : Hid (∀ d os, Calls Tryz.prog 13 #[] (grow (redrawn wh d) os) fun e w' => e = .returned (.bool true) ∧ ∃ p : Regrown, w' = grow (redrawn wh p.d) p.os) := fun d os => Calls.regrown_of ((works_any _).mono fun e w' h => ⟨h.1, h.2.below⟩)
      have s0' := fun d os => cell_regrown (kS.cell (i := 0) rfl) d os
      have s1' := fun d os => cell_regrown (kS.cell (i := 1) rfl) d os
      have s2' := fun d os => cell_regrown (kS.cell (i := 2) rfl) d os
      have s3' := fun d os => cell_regrown (kS.cell (i := 3) rfl) d os
      have l0' := fun d os => cell_regrown (kL.cell (i := 0) rfl) d os
      have l1' := fun d os => cell_regrown (kL.cell (i := 1) rfl) d os
      have h0' := fun d os => cell_regrown (kH.cell (i := 0) rfl) d os
      have h1' := fun d os => cell_regrown (kH.cell (i := 1) rfl) d os
      have p0' := fun d os => cell_regrown hX.out.p0 d os
      have p1' := fun d os => cell_regrown hX.out.p1 d os
      clear hD kS kL kH hll
      generalize onP p ((ax, ay) : P2) ((bx, ay) : P2) = F3 at *
      refine wp_region_quiet_below (by kernel_rfl) (by kernel_rfl) ?_
      repeat (go_big_quiet_step (first | exact Q15.out _ _ | exact Q31.out _ _ | exact Q13.out _ _))
      refine wpQuiet_nil ?_
      rintro _ ⟨⟨dq, osq⟩, rfl⟩
      have hc := hid' (below_regrown wh dq osq)
      go_wp2
      go_ret
      exact ⟨by simp, gb.out.trans (hc.out.mono gb.out.size)⟩
    · skip
      have hxb : (ax == bx) = false := by simp; omega
      have hx2 : ¬ bx < ax := by omega
      have hx3 : ¬ bx ≤ ax := by omega
      have hx4 : ax ≤ bx := by omega
      have hyb : (ay == by_) = false := by simp; omega
      have hy2 : ¬ ay < by_ := by omega
      have hy3 : ¬ ay ≤ by_ := by omega
      have hy4 : by_ ≤ ay := by omega
      have hyc : (by_ == ay) = false := by simp; omega
      obtain ⟨a0, a1, b0, b1, p0, p1, q0, q1⟩ := hX.out
      dsimp only at a0 a1 b0 b1
      go_upto_region 8 with fail
      obtain ⟨W8, hW8⟩ : ∃ W8, W8 = (wc.alloc (.cells #[.int .i32 ax, .int .i32 ay, .int .i32 bx, .int .i32 by_] 28)).alloc (.cells #[.int .u8 4, .slice (some ⟨wc.heap.size, 0, none⟩) 2 2, .slice none 0 0, .int .i32 0] 26) := ⟨_, rfl⟩
      rw [← hW8]
      have g8 : Below wc.heap.size wc W8 := by rw [hW8]; exact (((Gr.refl _).alloc _).alloc _).below
      have kS : Bl W8 (wc.heap.size + 1) 26 #[.int .u8 4, .slice (some ⟨wc.heap.size, 0, none⟩) 2 2, .slice none 0 0, .int .i32 0] := by rw [hW8]; have := Bl.new (wc.alloc (.cells #[.int .i32 ax, .int .i32 ay, .int .i32 bx, .int .i32 by_] 28)) 26 #[.int .u8 4, .slice (some ⟨wc.heap.size, 0, none⟩) 2 2, .slice none 0 0, .int .i32 0]; rwa [World.size_alloc] at this
      have hD : Pts W8 (some ⟨wc.heap.size, 0, none⟩) [((ax, ay) : P2), ((bx, by_) : P2)] := by rw [hW8]; exact pts2_new _ ((ax, ay) : P2) ((bx, by_) : P2) _
      replace hX := hid' (hX.out.mono g8)
      replace gb := hid' (gb.out.trans (g8.mono gb.out.size))
      clear hW8 g8 a0 a1 b0 b1 p0 p1 q0 q1
      generalize wc.heap.size = B2 at *
      have hab : ((ax, ay) : P2) ≠ ((bx, by_) : P2) := by intro e; rw [Prod.ext_iff] at e; simp at e; omega
      have Q15 : Hid (∀ d os, Calls Tryz.prog 15 #[shp 4 0 (some ⟨B2, 0, none⟩) none 2 2 0 0, pt p.1 p.2] (grow (redrawn W8 d) os) fun e w' => e = .returned (.bool (onP p ((ax, ay) : P2) ((bx, by_) : P2))) ∧ ∃ p : Regrown, w' = grow (redrawn W8 p.d) p.os) := fun d os => Calls.regrown_of (corr_cov hab L.out.1.1 L.out.1.2 L.out.2.1 (hD.mono (below_regrown W8 d os)))
      have Q17 : Hid (∀ d os, Calls Tryz.prog 17 #[shp 4 0 (some ⟨B2, 0, none⟩) none 2 2 0 0, pt p.1 p.2, pt q.1 q.2] (grow (redrawn W8 d) os) fun e w' => e = .returned (.bool (touch6 ((ax, ay) : P2) ((bx, by_) : P2) p q)) ∧ ∃ p : Regrown, w' = grow (redrawn W8 p.d) p.os) := fun d os => Calls.regrown_of (corr_mee hab L.out.1.1 L.out.1.2 L.out.2.1 L.out.2.2 (hD.mono (below_regrown W8 d os)))
      have Q31 : Hid (∀ d os, Calls Tryz.prog 31 #[pt p.1 p.2, pt ax ay, pt bx by_] (grow (redrawn W8 d) os) fun e w' => e = .returned (.bool (onP p ((ax, ay) : P2) ((bx, by_) : P2))) ∧ ∃ p : Regrown, w' = grow (redrawn W8 p.d) p.os) := fun d os => Calls.regrown_of ((on6_any p ((ax, ay) : P2) ((bx, by_) : P2) L.out.2.1 L.out.1.1 L.out.1.2 _).mono fun e w' h => ⟨h.1, h.2.below⟩)
      have Q32 : Hid (∀ d os, Calls Tryz.prog 32 #[pt ax ay, pt bx by_, pt p.1 p.2, pt q.1 q.2] (grow (redrawn W8 d) os) fun e w' => e = .returned (.bool (touch6 ((ax, ay) : P2) ((bx, by_) : P2) p q)) ∧ ∃ p : Regrown, w' = grow (redrawn W8 p.d) p.os) := fun d os => Calls.regrown_of ((touch6_any ((ax, ay) : P2) ((bx, by_) : P2) p q L.out.1.1 L.out.1.2 L.out.2.1 L.out.2.2 _).mono fun e w' h => ⟨h.1, h.2.below⟩)
      clear hD hab
      have s0' := fun d os => cell_regrown (kS.cell (i := 0) rfl) d os
      have s1' := fun d os => cell_regrown (kS.cell (i := 1) rfl) d os
      have s2' := fun d os => cell_regrown (kS.cell (i := 2) rfl) d os
      have s3' := fun d os => cell_regrown (kS.cell (i := 3) rfl) d os
      have a0' := fun d os => cell_regrown hX.out.a0 d os
      have a1' := fun d os => cell_regrown hX.out.a1 d os
      have b0' := fun d os => cell_regrown hX.out.b0 d os
      have b1' := fun d os => cell_regrown hX.out.b1 d os
      have p0' := fun d os => cell_regrown hX.out.p0 d os
      have p1' := fun d os => cell_regrown hX.out.p1 d os
      have q0' := fun d os => cell_regrown hX.out.q0 d os
      have q1' := fun d os => cell_regrown hX.out.q1 d os
      dsimp only at a0' a1' b0' b1'
      clear kS
      generalize onP p ((ax, ay) : P2) ((bx, by_) : P2) = F1 at *
      generalize touch6 ((ax, ay) : P2) ((bx, by_) : P2) p q = F2 at *
      refine wp_region_quiet_below (by kernel_rfl) (by kernel_rfl) ?_
      repeat (go_big_quiet_step (first | exact Q15.out _ _ | exact Q17.out _ _ | exact Q31.out _ _ | exact Q32.out _ _))
      refine wpQuiet_nil ?_
      rintro _ ⟨⟨dq, osq⟩, rfl⟩
      have hc := below_regrown W8 dq osq
      generalize grow (redrawn W8 dq) osq = wd at *
      replace hX := hid' (hX.out.mono hc)
      replace gb := hid' (gb.out.trans (hc.mono gb.out.size))
      clear Q15 Q17 Q31 Q32 s0' s1' s2' s3' a0' a1' b0' b1' p0' p1' q0' q1' hc
      obtain ⟨a0, a1, b0, b1, p0, p1, q0, q1⟩ := hX.out
      dsimp only at a0 a1 b0 b1
      go_upto_region 11 with fail
      obtain ⟨We, hWe⟩ : ∃ We, We = wd.alloc (.cells #[.int .i32 ax, .int .i32 by_] 28) := ⟨_, rfl⟩
      rw [← hWe]
      have gWe : Below wd.heap.size wd We := by rw [hWe]; exact ((Gr.refl _).alloc _).below
      replace hX := hid' (hX.out.mono gWe)
      replace gb := hid' (gb.out.trans (gWe.mono gb.out.size))
      clear a0 a1 b0 b1 p0 p1 q0 q1
      obtain ⟨a0, a1, b0, b1, p0, p1, q0, q1⟩ := hX.out
      dsimp only at a0 a1 b0 b1
      have kL : Bl We wd.heap.size 28 #[.int .i32 ax, .int .i32 by_] := by rw [hWe]; exact Bl.new _ _ _
      have eB : We.heap.size = wd.heap.size + 1 := by rw [hWe]; simp
      clear hWe gWe
      go_upto_region 12 with fail
      obtain ⟨Wf, hWf⟩ : ∃ Wf, Wf = We.alloc (.cells #[.int .i32 bx, .int .i32 ay] 28) := ⟨_, rfl⟩
      rw [← hWf]
      have gWf : Below We.heap.size We Wf := by rw [hWf]; exact ((Gr.refl _).alloc _).below
      replace hX := hid' (hX.out.mono gWf)
      replace gb := hid' (gb.out.trans (gWf.mono gb.out.size))
      replace kL := kL.below gWf
      clear a0 a1 b0 b1 p0 p1 q0 q1
      obtain ⟨a0, a1, b0, b1, p0, p1, q0, q1⟩ := hX.out
      dsimp only at a0 a1 b0 b1
      have kH : Bl Wf We.heap.size 28 #[.int .i32 bx, .int .i32 ay] := by rw [hWf]; exact Bl.new _ _ _
      rw [eB] at kH
      clear hWf gWf eB
      generalize wd.heap.size = Bw at *
      have l0 := kL.cell (i := 0) rfl
      have l1 := kL.cell (i := 1) rfl
      have h0 := kH.cell (i := 0) rfl
      have h1 := kH.cell (i := 1) rfl
      go_upto_region 13 with fail
      obtain ⟨Wg, hWg⟩ : ∃ Wg, Wg = (Wf.alloc (.cells #[.int .i32 ax, .int .i32 by_, .int .i32 bx, .int .i32 ay] 28)).alloc (.cells #[.int .u8 3, .slice (some ⟨Wf.heap.size, 0, none⟩) 2 2, .slice none 0 0, .int .i32 0] 26) := ⟨_, rfl⟩
      rw [← hWg]
      have gg : Below Wf.heap.size Wf Wg := by rw [hWg]; exact (((Gr.refl _).alloc _).alloc _).below
      have kS : Bl Wg (Wf.heap.size + 1) 26 #[.int .u8 3, .slice (some ⟨Wf.heap.size, 0, none⟩) 2 2, .slice none 0 0, .int .i32 0] := by rw [hWg]; have := Bl.new (Wf.alloc (.cells #[.int .i32 ax, .int .i32 by_, .int .i32 bx, .int .i32 ay] 28)) 26 #[.int .u8 3, .slice (some ⟨Wf.heap.size, 0, none⟩) 2 2, .slice none 0 0, .int .i32 0]; rwa [World.size_alloc] at this
      have hD : Pts Wg (some ⟨Wf.heap.size, 0, none⟩) [((ax, by_) : P2), ((bx, ay) : P2)] := by rw [hWg]; exact pts2_new _ ((ax, by_) : P2) ((bx, ay) : P2) _
      replace hX := hid' (hX.out.mono gg)
      replace gb := hid' (gb.out.trans (gg.mono gb.out.size))
      replace kL := kL.below gg
      replace kH := kH.below gg
      clear hWg gg a0 a1 b0 b1 p0 p1 q0 q1 l0 l1 h0 h1
      generalize Wf.heap.size = B3 at *
      have hll : lat ((ax, by_) : P2) ∧ lat ((bx, ay) : P2) := by have := L.out.1; unfold lat at *; simp only at *; omega
      have C14 : Hid (Calls Tryz.prog 14 #[shp 3 0 (some ⟨B3, 0, none⟩) none 2 2 0 0] Wg fun e w' => e = .returned (.int .i64 0) ∧ Below Wg.heap.size Wg w') := box_chk hll.1 hll.2 (by show ax ≤ bx; omega) (by show by_ ≤ ay; omega) hD
      have s0' := kS.cell (i := 0) rfl
      have s1' := kS.cell (i := 1) rfl
      have s2' := kS.cell (i := 2) rfl
      have s3' := kS.cell (i := 3) rfl
      go_upto_region 17 with (go_at_call 14; refine C14.out.mono ?_; rintro e wh ⟨rfl, gh⟩; have l0 := (kL.below gh).cell (i := 0) rfl; have l1 := (kL.below gh).cell (i := 1) rfl; have h0 := (kH.below gh).cell (i := 0) rfl; have h1 := (kH.below gh).cell (i := 1) rfl)
      replace hX := hid' (hX.out.mono gh)
      replace gb := hid' (gb.out.trans (gh.mono gb.out.size))
      replace kL := kL.below gh
      replace kH := kH.below gh
      replace kS := kS.below gh
      replace hD := hD.mono gh
      clear C14 gh s0' s1' s2' s3'
      go_upto_region 18 with fail
      obtain ⟨Wi, hWi⟩ : ∃ Wi, Wi = (wh.alloc (.cells #[.int .i32 ax, .int .i32 by_, .int .i32 bx, .int .i32 by_, .int .i32 bx, .int .i32 ay, .int .i32 ax, .int .i32 ay] 28)).alloc (.cells #[.int .u8 1, .slice (some ⟨wh.heap.size, 0, none⟩) 4 4, .slice none 0 0, .int .i32 0] 26) := ⟨_, rfl⟩
      rw [← hWi]
      have gi : Below wh.heap.size wh Wi := by rw [hWi]; exact (((Gr.refl _).alloc _).alloc _).below
      have kT : Bl Wi (wh.heap.size + 1) 26 #[.int .u8 1, .slice (some ⟨wh.heap.size, 0, none⟩) 4 4, .slice none 0 0, .int .i32 0] := by rw [hWi]; have := Bl.new (wh.alloc (.cells #[.int .i32 ax, .int .i32 by_, .int .i32 bx, .int .i32 by_, .int .i32 bx, .int .i32 ay, .int .i32 ax, .int .i32 ay] 28)) 26 #[.int .u8 1, .slice (some ⟨wh.heap.size, 0, none⟩) 4 4, .slice none 0 0, .int .i32 0]; rwa [World.size_alloc] at this
      have hE : Pts Wi (some ⟨wh.heap.size, 0, none⟩) (crnL ((ax, by_) : P2) ((bx, ay) : P2)) := by rw [hWi]; exact (eight_pts (Bl.new wh 28 _)).mono ((Gr.refl _).alloc _).below
      replace hX := hid' (hX.out.mono gi)
      replace gb := hid' (gb.out.trans (gi.mono gb.out.size))
      replace kS := kS.below gi
      replace hD := hD.mono gi
      clear hWi gi l0 l1 h0 h1 kL kH
      generalize wh.heap.size = B4 at *
      have Q14 : Hid (∀ d os, Calls Tryz.prog 14 #[shp 1 0 (some ⟨B4, 0, none⟩) none 4 4 0 0] (grow (redrawn Wi d) os) fun e w' => e = .returned (.int .i64 0) ∧ ∃ p : Regrown, w' = grow (redrawn Wi p.d) p.os) := fun d os => Calls.regrown_of (pol_chk hll.1 hll.2 (by show ax < bx; omega) (by show by_ < ay; omega) (hE.mono (below_regrown Wi d os)))
      have Q15 : Hid (∀ (k : Int) (B m : Nat) d os, ((k = 3 ∧ B = B3 ∧ m = 2) ∨ (k = 1 ∧ B = B4 ∧ m = 4)) → Calls Tryz.prog 15 #[shp k 0 (some ⟨B, 0, none⟩) none m m 0 0, pt p.1 p.2] (grow (redrawn Wi d) os) fun e w' => e = .returned (.bool (hasB ax by_ bx ay p.1 p.2)) ∧ ∃ p : Regrown, w' = grow (redrawn Wi p.d) p.os) := fun k B m d os hk => by
        rcases hk with ⟨rfl, rfl, rfl⟩ | ⟨rfl, rfl, rfl⟩
        · exact Calls.regrown_of (box_cov hll.1 hll.2 (by show ax ≤ bx; omega) (by show by_ ≤ ay; omega) (hD.mono (below_regrown Wi d os)))
        · exact Calls.regrown_of (pol_cov hll.1 hll.2 L.out.2.1 (by show ax < bx; omega) (by show by_ < ay; omega) (hE.mono (below_regrown Wi d os)))
      have Q17 : Hid (∀ (k : Int) (B m : Nat) d os, ((k = 3 ∧ B = B3 ∧ m = 2) ∨ (k = 1 ∧ B = B4 ∧ m = 4)) → Calls Tryz.prog 17 #[shp k 0 (some ⟨B, 0, none⟩) none m m 0 0, pt p.1 p.2, pt q.1 q.2] (grow (redrawn Wi d) os) fun e w' => e = .returned (.bool (rectM ((ax, by_) : P2) ((bx, ay) : P2) p q)) ∧ ∃ p : Regrown, w' = grow (redrawn Wi p.d) p.os) := fun k B m d os hk => by
        rcases hk with ⟨rfl, rfl, rfl⟩ | ⟨rfl, rfl, rfl⟩
        · exact Calls.regrown_of (box_mee hll.1 hll.2 (by show ax ≤ bx; omega) (by show by_ ≤ ay; omega) (hD.mono (below_regrown Wi d os)))
        · exact Calls.regrown_of (pol_mee hll.1 hll.2 L.out.2.1 (by show ax < bx; omega) (by show by_ < ay; omega) (hE.mono (below_regrown Wi d os)))
      have Q13 : Hid (∀ d os, Calls Tryz.prog 13 #[] (grow (redrawn Wi d) os) fun e w' => e = .returned (.bool true) ∧ ∃ p : Regrown, w' = grow (redrawn Wi p.d) p.os) := fun d os => Calls.regrown_of ((works_any _).mono fun e w' h => ⟨h.1, h.2.below⟩)
      have s0' := fun d os => cell_regrown (kS.cell (i := 0) rfl) d os
      have s1' := fun d os => cell_regrown (kS.cell (i := 1) rfl) d os
      have s2' := fun d os => cell_regrown (kS.cell (i := 2) rfl) d os
      have s3' := fun d os => cell_regrown (kS.cell (i := 3) rfl) d os
      have t0' := fun d os => cell_regrown (kT.cell (i := 0) rfl) d os
      have t1' := fun d os => cell_regrown (kT.cell (i := 1) rfl) d os
      have t2' := fun d os => cell_regrown (kT.cell (i := 2) rfl) d os
      have t3' := fun d os => cell_regrown (kT.cell (i := 3) rfl) d os
      have p0' := fun d os => cell_regrown hX.out.p0 d os
      have p1' := fun d os => cell_regrown hX.out.p1 d os
      have q0' := fun d os => cell_regrown hX.out.q0 d os
      have q1' := fun d os => cell_regrown hX.out.q1 d os
      clear hD hE kS kT hll
      generalize hasB ax by_ bx ay p.1 p.2 = F3 at *
      generalize rectM ((ax, by_) : P2) ((bx, ay) : P2) p q = F4 at *
      refine wp_region_quiet_below (by kernel_rfl) (by kernel_rfl) ?_
      repeat (go_big_quiet_step (first | exact Q14.out _ _ | exact Q15.out _ _ _ _ _ (by simp) | exact Q17.out _ _ _ _ _ (by simp) | exact Q13.out _ _))
      refine wpQuiet_nil ?_
      rintro _ ⟨⟨dq, osq⟩, rfl⟩
      have hc := hid' (below_regrown Wi dq osq)
      go_wp2
      go_ret
      exact ⟨by simp, gb.out.trans (hc.out.mono gb.out.size)⟩
    · skip
      subst hx
      have hyb : (ay == by_) = false := by simp; omega
      have hy2 : ¬ by_ < ay := by omega
      have hy3 : ¬ by_ ≤ ay := by omega
      have hy4 : ay ≤ by_ := by omega
      obtain ⟨a0, a1, b0, b1, p0, p1, q0, q1⟩ := hX.out
      dsimp only at a0 a1 b0 b1
      go_upto_region 8 with fail
      obtain ⟨W8, hW8⟩ : ∃ W8, W8 = (wc.alloc (.cells #[.int .i32 ax, .int .i32 ay, .int .i32 ax, .int .i32 by_] 28)).alloc (.cells #[.int .u8 4, .slice (some ⟨wc.heap.size, 0, none⟩) 2 2, .slice none 0 0, .int .i32 0] 26) := ⟨_, rfl⟩
      rw [← hW8]
      have g8 : Below wc.heap.size wc W8 := by rw [hW8]; exact (((Gr.refl _).alloc _).alloc _).below
      have kS : Bl W8 (wc.heap.size + 1) 26 #[.int .u8 4, .slice (some ⟨wc.heap.size, 0, none⟩) 2 2, .slice none 0 0, .int .i32 0] := by rw [hW8]; have := Bl.new (wc.alloc (.cells #[.int .i32 ax, .int .i32 ay, .int .i32 ax, .int .i32 by_] 28)) 26 #[.int .u8 4, .slice (some ⟨wc.heap.size, 0, none⟩) 2 2, .slice none 0 0, .int .i32 0]; rwa [World.size_alloc] at this
      have hD : Pts W8 (some ⟨wc.heap.size, 0, none⟩) [((ax, ay) : P2), ((ax, by_) : P2)] := by rw [hW8]; exact pts2_new _ ((ax, ay) : P2) ((ax, by_) : P2) _
      replace hX := hid' (hX.out.mono g8)
      replace gb := hid' (gb.out.trans (g8.mono gb.out.size))
      clear hW8 g8 a0 a1 b0 b1 p0 p1 q0 q1
      generalize wc.heap.size = B2 at *
      have hab : ((ax, ay) : P2) ≠ ((ax, by_) : P2) := by intro e; rw [Prod.ext_iff] at e; simp at e; omega
      have Q15 : Hid (∀ d os, Calls Tryz.prog 15 #[shp 4 0 (some ⟨B2, 0, none⟩) none 2 2 0 0, pt p.1 p.2] (grow (redrawn W8 d) os) fun e w' => e = .returned (.bool (onP p ((ax, ay) : P2) ((ax, by_) : P2))) ∧ ∃ p : Regrown, w' = grow (redrawn W8 p.d) p.os) := fun d os => Calls.regrown_of (corr_cov hab L.out.1.1 L.out.1.2 L.out.2.1 (hD.mono (below_regrown W8 d os)))
      have Q17 : Hid (∀ d os, Calls Tryz.prog 17 #[shp 4 0 (some ⟨B2, 0, none⟩) none 2 2 0 0, pt p.1 p.2, pt q.1 q.2] (grow (redrawn W8 d) os) fun e w' => e = .returned (.bool (touch6 ((ax, ay) : P2) ((ax, by_) : P2) p q)) ∧ ∃ p : Regrown, w' = grow (redrawn W8 p.d) p.os) := fun d os => Calls.regrown_of (corr_mee hab L.out.1.1 L.out.1.2 L.out.2.1 L.out.2.2 (hD.mono (below_regrown W8 d os)))
      have Q31 : Hid (∀ d os, Calls Tryz.prog 31 #[pt p.1 p.2, pt ax ay, pt ax by_] (grow (redrawn W8 d) os) fun e w' => e = .returned (.bool (onP p ((ax, ay) : P2) ((ax, by_) : P2))) ∧ ∃ p : Regrown, w' = grow (redrawn W8 p.d) p.os) := fun d os => Calls.regrown_of ((on6_any p ((ax, ay) : P2) ((ax, by_) : P2) L.out.2.1 L.out.1.1 L.out.1.2 _).mono fun e w' h => ⟨h.1, h.2.below⟩)
      have Q32 : Hid (∀ d os, Calls Tryz.prog 32 #[pt ax ay, pt ax by_, pt p.1 p.2, pt q.1 q.2] (grow (redrawn W8 d) os) fun e w' => e = .returned (.bool (touch6 ((ax, ay) : P2) ((ax, by_) : P2) p q)) ∧ ∃ p : Regrown, w' = grow (redrawn W8 p.d) p.os) := fun d os => Calls.regrown_of ((touch6_any ((ax, ay) : P2) ((ax, by_) : P2) p q L.out.1.1 L.out.1.2 L.out.2.1 L.out.2.2 _).mono fun e w' h => ⟨h.1, h.2.below⟩)
      clear hD hab
      have s0' := fun d os => cell_regrown (kS.cell (i := 0) rfl) d os
      have s1' := fun d os => cell_regrown (kS.cell (i := 1) rfl) d os
      have s2' := fun d os => cell_regrown (kS.cell (i := 2) rfl) d os
      have s3' := fun d os => cell_regrown (kS.cell (i := 3) rfl) d os
      have a0' := fun d os => cell_regrown hX.out.a0 d os
      have a1' := fun d os => cell_regrown hX.out.a1 d os
      have b0' := fun d os => cell_regrown hX.out.b0 d os
      have b1' := fun d os => cell_regrown hX.out.b1 d os
      have p0' := fun d os => cell_regrown hX.out.p0 d os
      have p1' := fun d os => cell_regrown hX.out.p1 d os
      have q0' := fun d os => cell_regrown hX.out.q0 d os
      have q1' := fun d os => cell_regrown hX.out.q1 d os
      dsimp only at a0' a1' b0' b1'
      clear kS
      generalize onP p ((ax, ay) : P2) ((ax, by_) : P2) = F1 at *
      generalize touch6 ((ax, ay) : P2) ((ax, by_) : P2) p q = F2 at *
      refine wp_region_quiet_below (by kernel_rfl) (by kernel_rfl) ?_
      repeat (go_big_quiet_step (first | exact Q15.out _ _ | exact Q17.out _ _ | exact Q31.out _ _ | exact Q32.out _ _))
      refine wpQuiet_nil ?_
      rintro _ ⟨⟨dq, osq⟩, rfl⟩
      have hc := below_regrown W8 dq osq
      generalize grow (redrawn W8 dq) osq = wd at *
      replace hX := hid' (hX.out.mono hc)
      replace gb := hid' (gb.out.trans (hc.mono gb.out.size))
      clear Q15 Q17 Q31 Q32 s0' s1' s2' s3' a0' a1' b0' b1' p0' p1' q0' q1' hc
      obtain ⟨a0, a1, b0, b1, p0, p1, q0, q1⟩ := hX.out
      dsimp only at a0 a1 b0 b1
      go_upto_region 11 with fail
      obtain ⟨We, hWe⟩ : ∃ We, We = wd.alloc (.cells #[.int .i32 ax, .int .i32 ay] 28) := ⟨_, rfl⟩
      rw [← hWe]
      have gWe : Below wd.heap.size wd We := by rw [hWe]; exact ((Gr.refl _).alloc _).below
      replace hX := hid' (hX.out.mono gWe)
      replace gb := hid' (gb.out.trans (gWe.mono gb.out.size))
      clear a0 a1 b0 b1 p0 p1 q0 q1
      obtain ⟨a0, a1, b0, b1, p0, p1, q0, q1⟩ := hX.out
      dsimp only at a0 a1 b0 b1
      have kL : Bl We wd.heap.size 28 #[.int .i32 ax, .int .i32 ay] := by rw [hWe]; exact Bl.new _ _ _
      have eB : We.heap.size = wd.heap.size + 1 := by rw [hWe]; simp
      clear hWe gWe
      go_upto_region 12 with fail
      obtain ⟨Wf, hWf⟩ : ∃ Wf, Wf = We.alloc (.cells #[.int .i32 ax, .int .i32 by_] 28) := ⟨_, rfl⟩
      rw [← hWf]
      have gWf : Below We.heap.size We Wf := by rw [hWf]; exact ((Gr.refl _).alloc _).below
      replace hX := hid' (hX.out.mono gWf)
      replace gb := hid' (gb.out.trans (gWf.mono gb.out.size))
      replace kL := kL.below gWf
      clear a0 a1 b0 b1 p0 p1 q0 q1
      obtain ⟨a0, a1, b0, b1, p0, p1, q0, q1⟩ := hX.out
      dsimp only at a0 a1 b0 b1
      have kH : Bl Wf We.heap.size 28 #[.int .i32 ax, .int .i32 by_] := by rw [hWf]; exact Bl.new _ _ _
      rw [eB] at kH
      clear hWf gWf eB
      generalize wd.heap.size = Bw at *
      have l0 := kL.cell (i := 0) rfl
      have l1 := kL.cell (i := 1) rfl
      have h0 := kH.cell (i := 0) rfl
      have h1 := kH.cell (i := 1) rfl
      go_upto_region 13 with fail
      obtain ⟨Wg, hWg⟩ : ∃ Wg, Wg = (Wf.alloc (.cells #[.int .i32 ax, .int .i32 ay, .int .i32 ax, .int .i32 by_] 28)).alloc (.cells #[.int .u8 3, .slice (some ⟨Wf.heap.size, 0, none⟩) 2 2, .slice none 0 0, .int .i32 0] 26) := ⟨_, rfl⟩
      rw [← hWg]
      have gg : Below Wf.heap.size Wf Wg := by rw [hWg]; exact (((Gr.refl _).alloc _).alloc _).below
      have kS : Bl Wg (Wf.heap.size + 1) 26 #[.int .u8 3, .slice (some ⟨Wf.heap.size, 0, none⟩) 2 2, .slice none 0 0, .int .i32 0] := by rw [hWg]; have := Bl.new (Wf.alloc (.cells #[.int .i32 ax, .int .i32 ay, .int .i32 ax, .int .i32 by_] 28)) 26 #[.int .u8 3, .slice (some ⟨Wf.heap.size, 0, none⟩) 2 2, .slice none 0 0, .int .i32 0]; rwa [World.size_alloc] at this
      have hD : Pts Wg (some ⟨Wf.heap.size, 0, none⟩) [((ax, ay) : P2), ((ax, by_) : P2)] := by rw [hWg]; exact pts2_new _ ((ax, ay) : P2) ((ax, by_) : P2) _
      replace hX := hid' (hX.out.mono gg)
      replace gb := hid' (gb.out.trans (gg.mono gb.out.size))
      replace kL := kL.below gg
      replace kH := kH.below gg
      clear hWg gg a0 a1 b0 b1 p0 p1 q0 q1 l0 l1 h0 h1
      generalize Wf.heap.size = B3 at *
      have hll : lat ((ax, ay) : P2) ∧ lat ((ax, by_) : P2) := by have := L.out.1; unfold lat at *; simp only at *; omega
      have C14 : Hid (Calls Tryz.prog 14 #[shp 3 0 (some ⟨B3, 0, none⟩) none 2 2 0 0] Wg fun e w' => e = .returned (.int .i64 0) ∧ Below Wg.heap.size Wg w') := box_chk hll.1 hll.2 (by show ax ≤ ax; omega) (by show ay ≤ by_; omega) hD
      have s0' := kS.cell (i := 0) rfl
      have s1' := kS.cell (i := 1) rfl
      have s2' := kS.cell (i := 2) rfl
      have s3' := kS.cell (i := 3) rfl
      go_upto_region 16 with (go_at_call 14; refine C14.out.mono ?_; rintro e wh ⟨rfl, gh⟩; have l0 := (kL.below gh).cell (i := 0) rfl; have l1 := (kL.below gh).cell (i := 1) rfl; have h0 := (kH.below gh).cell (i := 0) rfl; have h1 := (kH.below gh).cell (i := 1) rfl)
      replace hX := hid' (hX.out.mono gh)
      replace gb := hid' (gb.out.trans (gh.mono gb.out.size))
      replace kL := kL.below gh
      replace kH := kH.below gh
      replace kS := kS.below gh
      replace hD := hD.mono gh
      clear C14 gh s0' s1' s2' s3'
      clear l0 l1 h0 h1
      have Q15 : Hid (∀ d os, Calls Tryz.prog 15 #[shp 3 0 (some ⟨B3, 0, none⟩) none 2 2 0 0, pt p.1 p.2] (grow (redrawn wh d) os) fun e w' => e = .returned (.bool (onP p ((ax, ay) : P2) ((ax, by_) : P2))) ∧ ∃ p : Regrown, w' = grow (redrawn wh p.d) p.os) := fun d os => Calls.regrown_of (by rw [← has_line (a := ((ax, ay) : P2)) (b := ((ax, by_) : P2)) (p := p) (by show ax ≤ ax; omega) (by show ay ≤ by_; omega) (by show ax = ax ∨ ay = by_; omega)]; exact box_cov hll.1 hll.2 (by show ax ≤ ax; omega) (by show ay ≤ by_; omega) (hD.mono (below_regrown wh d os)))
      have Q31 : Hid (∀ d os, Calls Tryz.prog 31 #[pt p.1 p.2, pt ax ay, pt ax by_] (grow (redrawn wh d) os) fun e w' => e = .returned (.bool (onP p ((ax, ay) : P2) ((ax, by_) : P2))) ∧ ∃ p : Regrown, w' = grow (redrawn wh p.d) p.os) := fun d os => Calls.regrown_of ((on6_any p ((ax, ay) : P2) ((ax, by_) : P2) L.out.2.1 hll.1 hll.2 _).mono fun e w' h => ⟨h.1, h.2.below⟩)
      have Q13 : Hid (∀ d os, Calls Tryz.prog 13 #[] (grow (redrawn wh d) os) fun e w' => e = .returned (.bool true) ∧ ∃ p : Regrown, w' = grow (redrawn wh p.d) p.os) := fun d os => Calls.regrown_of ((works_any _).mono fun e w' h => ⟨h.1, h.2.below⟩)
      have s0' := fun d os => cell_regrown (kS.cell (i := 0) rfl) d os
      have s1' := fun d os => cell_regrown (kS.cell (i := 1) rfl) d os
      have s2' := fun d os => cell_regrown (kS.cell (i := 2) rfl) d os
      have s3' := fun d os => cell_regrown (kS.cell (i := 3) rfl) d os
      have l0' := fun d os => cell_regrown (kL.cell (i := 0) rfl) d os
      have l1' := fun d os => cell_regrown (kL.cell (i := 1) rfl) d os
      have h0' := fun d os => cell_regrown (kH.cell (i := 0) rfl) d os
      have h1' := fun d os => cell_regrown (kH.cell (i := 1) rfl) d os
      have p0' := fun d os => cell_regrown hX.out.p0 d os
      have p1' := fun d os => cell_regrown hX.out.p1 d os
      clear hD kS kL kH hll
      generalize onP p ((ax, ay) : P2) ((ax, by_) : P2) = F3 at *
      refine wp_region_quiet_below (by kernel_rfl) (by kernel_rfl) ?_
      repeat (go_big_quiet_step (first | exact Q15.out _ _ | exact Q31.out _ _ | exact Q13.out _ _))
      refine wpQuiet_nil ?_
      rintro _ ⟨⟨dq, osq⟩, rfl⟩
      have hc := hid' (below_regrown wh dq osq)
      go_wp2
      go_ret
      exact ⟨by simp, gb.out.trans (hc.out.mono gb.out.size)⟩
    · skip
      subst hx
      subst hy
      obtain ⟨a0, a1, b0, b1, p0, p1, q0, q1⟩ := hX.out
      dsimp only at a0 a1 b0 b1
      generalize hwd : wc = wd at *
      clear hwd
      go_upto_region 11 with fail
      obtain ⟨We, hWe⟩ : ∃ We, We = wd.alloc (.cells #[.int .i32 ax, .int .i32 ay] 28) := ⟨_, rfl⟩
      rw [← hWe]
      have gWe : Below wd.heap.size wd We := by rw [hWe]; exact ((Gr.refl _).alloc _).below
      replace hX := hid' (hX.out.mono gWe)
      replace gb := hid' (gb.out.trans (gWe.mono gb.out.size))
      clear a0 a1 b0 b1 p0 p1 q0 q1
      obtain ⟨a0, a1, b0, b1, p0, p1, q0, q1⟩ := hX.out
      dsimp only at a0 a1 b0 b1
      have kL : Bl We wd.heap.size 28 #[.int .i32 ax, .int .i32 ay] := by rw [hWe]; exact Bl.new _ _ _
      have eB : We.heap.size = wd.heap.size + 1 := by rw [hWe]; simp
      clear hWe gWe
      go_upto_region 12 with fail
      obtain ⟨Wf, hWf⟩ : ∃ Wf, Wf = We.alloc (.cells #[.int .i32 ax, .int .i32 ay] 28) := ⟨_, rfl⟩
      rw [← hWf]
      have gWf : Below We.heap.size We Wf := by rw [hWf]; exact ((Gr.refl _).alloc _).below
      replace hX := hid' (hX.out.mono gWf)
      replace gb := hid' (gb.out.trans (gWf.mono gb.out.size))
      replace kL := kL.below gWf
      clear a0 a1 b0 b1 p0 p1 q0 q1
      obtain ⟨a0, a1, b0, b1, p0, p1, q0, q1⟩ := hX.out
      dsimp only at a0 a1 b0 b1
      have kH : Bl Wf We.heap.size 28 #[.int .i32 ax, .int .i32 ay] := by rw [hWf]; exact Bl.new _ _ _
      rw [eB] at kH
      clear hWf gWf eB
      generalize wd.heap.size = Bw at *
      have l0 := kL.cell (i := 0) rfl
      have l1 := kL.cell (i := 1) rfl
      have h0 := kH.cell (i := 0) rfl
      have h1 := kH.cell (i := 1) rfl
      go_upto_region 13 with fail
      obtain ⟨Wg, hWg⟩ : ∃ Wg, Wg = (Wf.alloc (.cells #[.int .i32 ax, .int .i32 ay, .int .i32 ax, .int .i32 ay] 28)).alloc (.cells #[.int .u8 3, .slice (some ⟨Wf.heap.size, 0, none⟩) 2 2, .slice none 0 0, .int .i32 0] 26) := ⟨_, rfl⟩
      rw [← hWg]
      have gg : Below Wf.heap.size Wf Wg := by rw [hWg]; exact (((Gr.refl _).alloc _).alloc _).below
      have kS : Bl Wg (Wf.heap.size + 1) 26 #[.int .u8 3, .slice (some ⟨Wf.heap.size, 0, none⟩) 2 2, .slice none 0 0, .int .i32 0] := by rw [hWg]; have := Bl.new (Wf.alloc (.cells #[.int .i32 ax, .int .i32 ay, .int .i32 ax, .int .i32 ay] 28)) 26 #[.int .u8 3, .slice (some ⟨Wf.heap.size, 0, none⟩) 2 2, .slice none 0 0, .int .i32 0]; rwa [World.size_alloc] at this
      have hD : Pts Wg (some ⟨Wf.heap.size, 0, none⟩) [((ax, ay) : P2), ((ax, ay) : P2)] := by rw [hWg]; exact pts2_new _ ((ax, ay) : P2) ((ax, ay) : P2) _
      replace hX := hid' (hX.out.mono gg)
      replace gb := hid' (gb.out.trans (gg.mono gb.out.size))
      replace kL := kL.below gg
      replace kH := kH.below gg
      clear hWg gg a0 a1 b0 b1 p0 p1 q0 q1 l0 l1 h0 h1
      generalize Wf.heap.size = B3 at *
      have hll : lat ((ax, ay) : P2) ∧ lat ((ax, ay) : P2) := by have := L.out.1; unfold lat at *; simp only at *; omega
      have C14 : Hid (Calls Tryz.prog 14 #[shp 3 0 (some ⟨B3, 0, none⟩) none 2 2 0 0] Wg fun e w' => e = .returned (.int .i64 0) ∧ Below Wg.heap.size Wg w') := box_chk hll.1 hll.2 (by show ax ≤ ax; omega) (by show ay ≤ ay; omega) hD
      have s0' := kS.cell (i := 0) rfl
      have s1' := kS.cell (i := 1) rfl
      have s2' := kS.cell (i := 2) rfl
      have s3' := kS.cell (i := 3) rfl
      go_upto_region 16 with (go_at_call 14; refine C14.out.mono ?_; rintro e wh ⟨rfl, gh⟩; have l0 := (kL.below gh).cell (i := 0) rfl; have l1 := (kL.below gh).cell (i := 1) rfl; have h0 := (kH.below gh).cell (i := 0) rfl; have h1 := (kH.below gh).cell (i := 1) rfl)
      replace hX := hid' (hX.out.mono gh)
      replace gb := hid' (gb.out.trans (gh.mono gb.out.size))
      replace kL := kL.below gh
      replace kH := kH.below gh
      replace kS := kS.below gh
      replace hD := hD.mono gh
      clear C14 gh s0' s1' s2' s3'
      clear l0 l1 h0 h1
      have Q15 : Hid (∀ d os, Calls Tryz.prog 15 #[shp 3 0 (some ⟨B3, 0, none⟩) none 2 2 0 0, pt p.1 p.2] (grow (redrawn wh d) os) fun e w' => e = .returned (.bool (onP p ((ax, ay) : P2) ((ax, ay) : P2))) ∧ ∃ p : Regrown, w' = grow (redrawn wh p.d) p.os) := fun d os => Calls.regrown_of (by rw [← has_line (a := ((ax, ay) : P2)) (b := ((ax, ay) : P2)) (p := p) (by show ax ≤ ax; omega) (by show ay ≤ ay; omega) (by show ax = ax ∨ ay = ay; omega)]; exact box_cov hll.1 hll.2 (by show ax ≤ ax; omega) (by show ay ≤ ay; omega) (hD.mono (below_regrown wh d os)))
      have Q31 : Hid (∀ d os, Calls Tryz.prog 31 #[pt p.1 p.2, pt ax ay, pt ax ay] (grow (redrawn wh d) os) fun e w' => e = .returned (.bool (onP p ((ax, ay) : P2) ((ax, ay) : P2))) ∧ ∃ p : Regrown, w' = grow (redrawn wh p.d) p.os) := fun d os => Calls.regrown_of ((on6_any p ((ax, ay) : P2) ((ax, ay) : P2) L.out.2.1 hll.1 hll.2 _).mono fun e w' h => ⟨h.1, h.2.below⟩)
      have Q13 : Hid (∀ d os, Calls Tryz.prog 13 #[] (grow (redrawn wh d) os) fun e w' => e = .returned (.bool true) ∧ ∃ p : Regrown, w' = grow (redrawn wh p.d) p.os) := fun d os => Calls.regrown_of ((works_any _).mono fun e w' h => ⟨h.1, h.2.below⟩)
      have s0' := fun d os => cell_regrown (kS.cell (i := 0) rfl) d os
      have s1' := fun d os => cell_regrown (kS.cell (i := 1) rfl) d os
      have s2' := fun d os => cell_regrown (kS.cell (i := 2) rfl) d os
      have s3' := fun d os => cell_regrown (kS.cell (i := 3) rfl) d os
      have l0' := fun d os => cell_regrown (kL.cell (i := 0) rfl) d os
      have l1' := fun d os => cell_regrown (kL.cell (i := 1) rfl) d os
      have h0' := fun d os => cell_regrown (kH.cell (i := 0) rfl) d os
      have h1' := fun d os => cell_regrown (kH.cell (i := 1) rfl) d os
      have p0' := fun d os => cell_regrown hX.out.p0 d os
      have p1' := fun d os => cell_regrown hX.out.p1 d os
      clear hD kS kL kH hll
      generalize onP p ((ax, ay) : P2) ((ax, ay) : P2) = F3 at *
      refine wp_region_quiet_below (by kernel_rfl) (by kernel_rfl) ?_
      repeat (go_big_quiet_step (first | exact Q15.out _ _ | exact Q31.out _ _ | exact Q13.out _ _))
      refine wpQuiet_nil ?_
      rintro _ ⟨⟨dq, osq⟩, rfl⟩
      have hc := hid' (below_regrown wh dq osq)
      go_wp2
      go_ret
      exact ⟨by simp, gb.out.trans (hc.out.mono gb.out.size)⟩
    · skip
      subst hx
      have hyb : (ay == by_) = false := by simp; omega
      have hy2 : ¬ ay < by_ := by omega
      have hy3 : ¬ ay ≤ by_ := by omega
      have hy4 : by_ ≤ ay := by omega
      have hyc : (by_ == ay) = false := by simp; omega
      obtain ⟨a0, a1, b0, b1, p0, p1, q0, q1⟩ := hX.out
      dsimp only at a0 a1 b0 b1
      go_upto_region 8 with fail
      obtain ⟨W8, hW8⟩ : ∃ W8, W8 = (wc.alloc (.cells #[.int .i32 ax, .int .i32 ay, .int .i32 ax, .int .i32 by_] 28)).alloc (.cells #[.int .u8 4, .slice (some ⟨wc.heap.size, 0, none⟩) 2 2, .slice none 0 0, .int .i32 0] 26) := ⟨_, rfl⟩
      rw [← hW8]
      have g8 : Below wc.heap.size wc W8 := by rw [hW8]; exact (((Gr.refl _).alloc _).alloc _).below
      have kS : Bl W8 (wc.heap.size + 1) 26 #[.int .u8 4, .slice (some ⟨wc.heap.size, 0, none⟩) 2 2, .slice none 0 0, .int .i32 0] := by rw [hW8]; have := Bl.new (wc.alloc (.cells #[.int .i32 ax, .int .i32 ay, .int .i32 ax, .int .i32 by_] 28)) 26 #[.int .u8 4, .slice (some ⟨wc.heap.size, 0, none⟩) 2 2, .slice none 0 0, .int .i32 0]; rwa [World.size_alloc] at this
      have hD : Pts W8 (some ⟨wc.heap.size, 0, none⟩) [((ax, ay) : P2), ((ax, by_) : P2)] := by rw [hW8]; exact pts2_new _ ((ax, ay) : P2) ((ax, by_) : P2) _
      replace hX := hid' (hX.out.mono g8)
      replace gb := hid' (gb.out.trans (g8.mono gb.out.size))
      clear hW8 g8 a0 a1 b0 b1 p0 p1 q0 q1
      generalize wc.heap.size = B2 at *
      have hab : ((ax, ay) : P2) ≠ ((ax, by_) : P2) := by intro e; rw [Prod.ext_iff] at e; simp at e; omega
      have Q15 : Hid (∀ d os, Calls Tryz.prog 15 #[shp 4 0 (some ⟨B2, 0, none⟩) none 2 2 0 0, pt p.1 p.2] (grow (redrawn W8 d) os) fun e w' => e = .returned (.bool (onP p ((ax, ay) : P2) ((ax, by_) : P2))) ∧ ∃ p : Regrown, w' = grow (redrawn W8 p.d) p.os) := fun d os => Calls.regrown_of (corr_cov hab L.out.1.1 L.out.1.2 L.out.2.1 (hD.mono (below_regrown W8 d os)))
      have Q17 : Hid (∀ d os, Calls Tryz.prog 17 #[shp 4 0 (some ⟨B2, 0, none⟩) none 2 2 0 0, pt p.1 p.2, pt q.1 q.2] (grow (redrawn W8 d) os) fun e w' => e = .returned (.bool (touch6 ((ax, ay) : P2) ((ax, by_) : P2) p q)) ∧ ∃ p : Regrown, w' = grow (redrawn W8 p.d) p.os) := fun d os => Calls.regrown_of (corr_mee hab L.out.1.1 L.out.1.2 L.out.2.1 L.out.2.2 (hD.mono (below_regrown W8 d os)))
      have Q31 : Hid (∀ d os, Calls Tryz.prog 31 #[pt p.1 p.2, pt ax ay, pt ax by_] (grow (redrawn W8 d) os) fun e w' => e = .returned (.bool (onP p ((ax, ay) : P2) ((ax, by_) : P2))) ∧ ∃ p : Regrown, w' = grow (redrawn W8 p.d) p.os) := fun d os => Calls.regrown_of ((on6_any p ((ax, ay) : P2) ((ax, by_) : P2) L.out.2.1 L.out.1.1 L.out.1.2 _).mono fun e w' h => ⟨h.1, h.2.below⟩)
      have Q32 : Hid (∀ d os, Calls Tryz.prog 32 #[pt ax ay, pt ax by_, pt p.1 p.2, pt q.1 q.2] (grow (redrawn W8 d) os) fun e w' => e = .returned (.bool (touch6 ((ax, ay) : P2) ((ax, by_) : P2) p q)) ∧ ∃ p : Regrown, w' = grow (redrawn W8 p.d) p.os) := fun d os => Calls.regrown_of ((touch6_any ((ax, ay) : P2) ((ax, by_) : P2) p q L.out.1.1 L.out.1.2 L.out.2.1 L.out.2.2 _).mono fun e w' h => ⟨h.1, h.2.below⟩)
      clear hD hab
      have s0' := fun d os => cell_regrown (kS.cell (i := 0) rfl) d os
      have s1' := fun d os => cell_regrown (kS.cell (i := 1) rfl) d os
      have s2' := fun d os => cell_regrown (kS.cell (i := 2) rfl) d os
      have s3' := fun d os => cell_regrown (kS.cell (i := 3) rfl) d os
      have a0' := fun d os => cell_regrown hX.out.a0 d os
      have a1' := fun d os => cell_regrown hX.out.a1 d os
      have b0' := fun d os => cell_regrown hX.out.b0 d os
      have b1' := fun d os => cell_regrown hX.out.b1 d os
      have p0' := fun d os => cell_regrown hX.out.p0 d os
      have p1' := fun d os => cell_regrown hX.out.p1 d os
      have q0' := fun d os => cell_regrown hX.out.q0 d os
      have q1' := fun d os => cell_regrown hX.out.q1 d os
      dsimp only at a0' a1' b0' b1'
      clear kS
      generalize onP p ((ax, ay) : P2) ((ax, by_) : P2) = F1 at *
      generalize touch6 ((ax, ay) : P2) ((ax, by_) : P2) p q = F2 at *
      refine wp_region_quiet_below (by kernel_rfl) (by kernel_rfl) ?_
      repeat (go_big_quiet_step (first | exact Q15.out _ _ | exact Q17.out _ _ | exact Q31.out _ _ | exact Q32.out _ _))
      refine wpQuiet_nil ?_
      rintro _ ⟨⟨dq, osq⟩, rfl⟩
      have hc := below_regrown W8 dq osq
      generalize grow (redrawn W8 dq) osq = wd at *
      replace hX := hid' (hX.out.mono hc)
      replace gb := hid' (gb.out.trans (hc.mono gb.out.size))
      clear Q15 Q17 Q31 Q32 s0' s1' s2' s3' a0' a1' b0' b1' p0' p1' q0' q1' hc
      obtain ⟨a0, a1, b0, b1, p0, p1, q0, q1⟩ := hX.out
      dsimp only at a0 a1 b0 b1
      go_upto_region 11 with fail
      obtain ⟨We, hWe⟩ : ∃ We, We = wd.alloc (.cells #[.int .i32 ax, .int .i32 by_] 28) := ⟨_, rfl⟩
      rw [← hWe]
      have gWe : Below wd.heap.size wd We := by rw [hWe]; exact ((Gr.refl _).alloc _).below
      replace hX := hid' (hX.out.mono gWe)
      replace gb := hid' (gb.out.trans (gWe.mono gb.out.size))
      clear a0 a1 b0 b1 p0 p1 q0 q1
      obtain ⟨a0, a1, b0, b1, p0, p1, q0, q1⟩ := hX.out
      dsimp only at a0 a1 b0 b1
      have kL : Bl We wd.heap.size 28 #[.int .i32 ax, .int .i32 by_] := by rw [hWe]; exact Bl.new _ _ _
      have eB : We.heap.size = wd.heap.size + 1 := by rw [hWe]; simp
      clear hWe gWe
      go_upto_region 12 with fail
      obtain ⟨Wf, hWf⟩ : ∃ Wf, Wf = We.alloc (.cells #[.int .i32 ax, .int .i32 ay] 28) := ⟨_, rfl⟩
      rw [← hWf]
      have gWf : Below We.heap.size We Wf := by rw [hWf]; exact ((Gr.refl _).alloc _).below
      replace hX := hid' (hX.out.mono gWf)
      replace gb := hid' (gb.out.trans (gWf.mono gb.out.size))
      replace kL := kL.below gWf
      clear a0 a1 b0 b1 p0 p1 q0 q1
      obtain ⟨a0, a1, b0, b1, p0, p1, q0, q1⟩ := hX.out
      dsimp only at a0 a1 b0 b1
      have kH : Bl Wf We.heap.size 28 #[.int .i32 ax, .int .i32 ay] := by rw [hWf]; exact Bl.new _ _ _
      rw [eB] at kH
      clear hWf gWf eB
      generalize wd.heap.size = Bw at *
      have l0 := kL.cell (i := 0) rfl
      have l1 := kL.cell (i := 1) rfl
      have h0 := kH.cell (i := 0) rfl
      have h1 := kH.cell (i := 1) rfl
      go_upto_region 13 with fail
      obtain ⟨Wg, hWg⟩ : ∃ Wg, Wg = (Wf.alloc (.cells #[.int .i32 ax, .int .i32 by_, .int .i32 ax, .int .i32 ay] 28)).alloc (.cells #[.int .u8 3, .slice (some ⟨Wf.heap.size, 0, none⟩) 2 2, .slice none 0 0, .int .i32 0] 26) := ⟨_, rfl⟩
      rw [← hWg]
      have gg : Below Wf.heap.size Wf Wg := by rw [hWg]; exact (((Gr.refl _).alloc _).alloc _).below
      have kS : Bl Wg (Wf.heap.size + 1) 26 #[.int .u8 3, .slice (some ⟨Wf.heap.size, 0, none⟩) 2 2, .slice none 0 0, .int .i32 0] := by rw [hWg]; have := Bl.new (Wf.alloc (.cells #[.int .i32 ax, .int .i32 by_, .int .i32 ax, .int .i32 ay] 28)) 26 #[.int .u8 3, .slice (some ⟨Wf.heap.size, 0, none⟩) 2 2, .slice none 0 0, .int .i32 0]; rwa [World.size_alloc] at this
      have hD : Pts Wg (some ⟨Wf.heap.size, 0, none⟩) [((ax, by_) : P2), ((ax, ay) : P2)] := by rw [hWg]; exact pts2_new _ ((ax, by_) : P2) ((ax, ay) : P2) _
      replace hX := hid' (hX.out.mono gg)
      replace gb := hid' (gb.out.trans (gg.mono gb.out.size))
      replace kL := kL.below gg
      replace kH := kH.below gg
      clear hWg gg a0 a1 b0 b1 p0 p1 q0 q1 l0 l1 h0 h1
      generalize Wf.heap.size = B3 at *
      have hll : lat ((ax, by_) : P2) ∧ lat ((ax, ay) : P2) := by have := L.out.1; unfold lat at *; simp only at *; omega
      have C14 : Hid (Calls Tryz.prog 14 #[shp 3 0 (some ⟨B3, 0, none⟩) none 2 2 0 0] Wg fun e w' => e = .returned (.int .i64 0) ∧ Below Wg.heap.size Wg w') := box_chk hll.1 hll.2 (by show ax ≤ ax; omega) (by show by_ ≤ ay; omega) hD
      have s0' := kS.cell (i := 0) rfl
      have s1' := kS.cell (i := 1) rfl
      have s2' := kS.cell (i := 2) rfl
      have s3' := kS.cell (i := 3) rfl
      go_upto_region 16 with (go_at_call 14; refine C14.out.mono ?_; rintro e wh ⟨rfl, gh⟩; have l0 := (kL.below gh).cell (i := 0) rfl; have l1 := (kL.below gh).cell (i := 1) rfl; have h0 := (kH.below gh).cell (i := 0) rfl; have h1 := (kH.below gh).cell (i := 1) rfl)
      replace hX := hid' (hX.out.mono gh)
      replace gb := hid' (gb.out.trans (gh.mono gb.out.size))
      replace kL := kL.below gh
      replace kH := kH.below gh
      replace kS := kS.below gh
      replace hD := hD.mono gh
      clear C14 gh s0' s1' s2' s3'
      clear l0 l1 h0 h1
      have Q15 : Hid (∀ d os, Calls Tryz.prog 15 #[shp 3 0 (some ⟨B3, 0, none⟩) none 2 2 0 0, pt p.1 p.2] (grow (redrawn wh d) os) fun e w' => e = .returned (.bool (onP p ((ax, by_) : P2) ((ax, ay) : P2))) ∧ ∃ p : Regrown, w' = grow (redrawn wh p.d) p.os) := fun d os => Calls.regrown_of (by rw [← has_line (a := ((ax, by_) : P2)) (b := ((ax, ay) : P2)) (p := p) (by show ax ≤ ax; omega) (by show by_ ≤ ay; omega) (by show ax = ax ∨ by_ = ay; omega)]; exact box_cov hll.1 hll.2 (by show ax ≤ ax; omega) (by show by_ ≤ ay; omega) (hD.mono (below_regrown wh d os)))
      have Q31 : Hid (∀ d os, Calls Tryz.prog 31 #[pt p.1 p.2, pt ax by_, pt ax ay] (grow (redrawn wh d) os) fun e w' => e = .returned (.bool (onP p ((ax, by_) : P2) ((ax, ay) : P2))) ∧ ∃ p : Regrown, w' = grow (redrawn wh p.d) p.os) := fun d os => Calls.regrown_of ((on6_any p ((ax, by_) : P2) ((ax, ay) : P2) L.out.2.1 hll.1 hll.2 _).mono fun e w' h => ⟨h.1, h.2.below⟩)
      have Q13 : Hid (∀ d os, Calls Tryz.prog 13 #[] (grow (redrawn wh d) os) fun e w' => e = .returned (.bool true) ∧ ∃ p : Regrown, w' = grow (redrawn wh p.d) p.os) := fun d os => Calls.regrown_of ((works_any _).mono fun e w' h => ⟨h.1, h.2.below⟩)
      have s0' := fun d os => cell_regrown (kS.cell (i := 0) rfl) d os
      have s1' := fun d os => cell_regrown (kS.cell (i := 1) rfl) d os
      have s2' := fun d os => cell_regrown (kS.cell (i := 2) rfl) d os
      have s3' := fun d os => cell_regrown (kS.cell (i := 3) rfl) d os
      have l0' := fun d os => cell_regrown (kL.cell (i := 0) rfl) d os
      have l1' := fun d os => cell_regrown (kL.cell (i := 1) rfl) d os
      have h0' := fun d os => cell_regrown (kH.cell (i := 0) rfl) d os
      have h1' := fun d os => cell_regrown (kH.cell (i := 1) rfl) d os
      have p0' := fun d os => cell_regrown hX.out.p0 d os
      have p1' := fun d os => cell_regrown hX.out.p1 d os
      clear hD kS kL kH hll
      generalize onP p ((ax, by_) : P2) ((ax, ay) : P2) = F3 at *
      refine wp_region_quiet_below (by kernel_rfl) (by kernel_rfl) ?_
      repeat (go_big_quiet_step (first | exact Q15.out _ _ | exact Q31.out _ _ | exact Q13.out _ _))
      refine wpQuiet_nil ?_
      rintro _ ⟨⟨dq, osq⟩, rfl⟩
      have hc := hid' (below_regrown wh dq osq)
      go_wp2
      go_ret
      exact ⟨by simp, gb.out.trans (hc.out.mono gb.out.size)⟩
    · skip
      have hxb : (ax == bx) = false := by simp; omega
      have hx2 : ¬ ax < bx := by omega
      have hx3 : ¬ ax ≤ bx := by omega
      have hx4 : bx ≤ ax := by omega
      have hxc : (bx == ax) = false := by simp; omega
      have hyb : (ay == by_) = false := by simp; omega
      have hy2 : ¬ by_ < ay := by omega
      have hy3 : ¬ by_ ≤ ay := by omega
      have hy4 : ay ≤ by_ := by omega
      obtain ⟨a0, a1, b0, b1, p0, p1, q0, q1⟩ := hX.out
      dsimp only at a0 a1 b0 b1
      go_upto_region 8 with fail
      obtain ⟨W8, hW8⟩ : ∃ W8, W8 = (wc.alloc (.cells #[.int .i32 ax, .int .i32 ay, .int .i32 bx, .int .i32 by_] 28)).alloc (.cells #[.int .u8 4, .slice (some ⟨wc.heap.size, 0, none⟩) 2 2, .slice none 0 0, .int .i32 0] 26) := ⟨_, rfl⟩
      rw [← hW8]
      have g8 : Below wc.heap.size wc W8 := by rw [hW8]; exact (((Gr.refl _).alloc _).alloc _).below
      have kS : Bl W8 (wc.heap.size + 1) 26 #[.int .u8 4, .slice (some ⟨wc.heap.size, 0, none⟩) 2 2, .slice none 0 0, .int .i32 0] := by rw [hW8]; have := Bl.new (wc.alloc (.cells #[.int .i32 ax, .int .i32 ay, .int .i32 bx, .int .i32 by_] 28)) 26 #[.int .u8 4, .slice (some ⟨wc.heap.size, 0, none⟩) 2 2, .slice none 0 0, .int .i32 0]; rwa [World.size_alloc] at this
      have hD : Pts W8 (some ⟨wc.heap.size, 0, none⟩) [((ax, ay) : P2), ((bx, by_) : P2)] := by rw [hW8]; exact pts2_new _ ((ax, ay) : P2) ((bx, by_) : P2) _
      replace hX := hid' (hX.out.mono g8)
      replace gb := hid' (gb.out.trans (g8.mono gb.out.size))
      clear hW8 g8 a0 a1 b0 b1 p0 p1 q0 q1
      generalize wc.heap.size = B2 at *
      have hab : ((ax, ay) : P2) ≠ ((bx, by_) : P2) := by intro e; rw [Prod.ext_iff] at e; simp at e; omega
      have Q15 : Hid (∀ d os, Calls Tryz.prog 15 #[shp 4 0 (some ⟨B2, 0, none⟩) none 2 2 0 0, pt p.1 p.2] (grow (redrawn W8 d) os) fun e w' => e = .returned (.bool (onP p ((ax, ay) : P2) ((bx, by_) : P2))) ∧ ∃ p : Regrown, w' = grow (redrawn W8 p.d) p.os) := fun d os => Calls.regrown_of (corr_cov hab L.out.1.1 L.out.1.2 L.out.2.1 (hD.mono (below_regrown W8 d os)))
      have Q17 : Hid (∀ d os, Calls Tryz.prog 17 #[shp 4 0 (some ⟨B2, 0, none⟩) none 2 2 0 0, pt p.1 p.2, pt q.1 q.2] (grow (redrawn W8 d) os) fun e w' => e = .returned (.bool (touch6 ((ax, ay) : P2) ((bx, by_) : P2) p q)) ∧ ∃ p : Regrown, w' = grow (redrawn W8 p.d) p.os) := fun d os => Calls.regrown_of (corr_mee hab L.out.1.1 L.out.1.2 L.out.2.1 L.out.2.2 (hD.mono (below_regrown W8 d os)))
      have Q31 : Hid (∀ d os, Calls Tryz.prog 31 #[pt p.1 p.2, pt ax ay, pt bx by_] (grow (redrawn W8 d) os) fun e w' => e = .returned (.bool (onP p ((ax, ay) : P2) ((bx, by_) : P2))) ∧ ∃ p : Regrown, w' = grow (redrawn W8 p.d) p.os) := fun d os => Calls.regrown_of ((on6_any p ((ax, ay) : P2) ((bx, by_) : P2) L.out.2.1 L.out.1.1 L.out.1.2 _).mono fun e w' h => ⟨h.1, h.2.below⟩)
      have Q32 : Hid (∀ d os, Calls Tryz.prog 32 #[pt ax ay, pt bx by_, pt p.1 p.2, pt q.1 q.2] (grow (redrawn W8 d) os) fun e w' => e = .returned (.bool (touch6 ((ax, ay) : P2) ((bx, by_) : P2) p q)) ∧ ∃ p : Regrown, w' = grow (redrawn W8 p.d) p.os) := fun d os => Calls.regrown_of ((touch6_any ((ax, ay) : P2) ((bx, by_) : P2) p q L.out.1.1 L.out.1.2 L.out.2.1 L.out.2.2 _).mono fun e w' h => ⟨h.1, h.2.below⟩)
      clear hD hab
      have s0' := fun d os => cell_regrown (kS.cell (i := 0) rfl) d os
      have s1' := fun d os => cell_regrown (kS.cell (i := 1) rfl) d os
      have s2' := fun d os => cell_regrown (kS.cell (i := 2) rfl) d os
      have s3' := fun d os => cell_regrown (kS.cell (i := 3) rfl) d os
      have a0' := fun d os => cell_regrown hX.out.a0 d os
      have a1' := fun d os => cell_regrown hX.out.a1 d os
      have b0' := fun d os => cell_regrown hX.out.b0 d os
      have b1' := fun d os => cell_regrown hX.out.b1 d os
      have p0' := fun d os => cell_regrown hX.out.p0 d os
      have p1' := fun d os => cell_regrown hX.out.p1 d os
      have q0' := fun d os => cell_regrown hX.out.q0 d os
      have q1' := fun d os => cell_regrown hX.out.q1 d os
      dsimp only at a0' a1' b0' b1'
      clear kS
      generalize onP p ((ax, ay) : P2) ((bx, by_) : P2) = F1 at *
      generalize touch6 ((ax, ay) : P2) ((bx, by_) : P2) p q = F2 at *
      refine wp_region_quiet_below (by kernel_rfl) (by kernel_rfl) ?_
      repeat (go_big_quiet_step (first | exact Q15.out _ _ | exact Q17.out _ _ | exact Q31.out _ _ | exact Q32.out _ _))
      refine wpQuiet_nil ?_
      rintro _ ⟨⟨dq, osq⟩, rfl⟩
      have hc := below_regrown W8 dq osq
      generalize grow (redrawn W8 dq) osq = wd at *
      replace hX := hid' (hX.out.mono hc)
      replace gb := hid' (gb.out.trans (hc.mono gb.out.size))
      clear Q15 Q17 Q31 Q32 s0' s1' s2' s3' a0' a1' b0' b1' p0' p1' q0' q1' hc
      obtain ⟨a0, a1, b0, b1, p0, p1, q0, q1⟩ := hX.out
      dsimp only at a0 a1 b0 b1
      go_upto_region 11 with fail
      obtain ⟨We, hWe⟩ : ∃ We, We = wd.alloc (.cells #[.int .i32 bx, .int .i32 ay] 28) := ⟨_, rfl⟩
      rw [← hWe]
      have gWe : Below wd.heap.size wd We := by rw [hWe]; exact ((Gr.refl _).alloc _).below
      replace hX := hid' (hX.out.mono gWe)
      replace gb := hid' (gb.out.trans (gWe.mono gb.out.size))
      clear a0 a1 b0 b1 p0 p1 q0 q1
      obtain ⟨a0, a1, b0, b1, p0, p1, q0, q1⟩ := hX.out
      dsimp only at a0 a1 b0 b1
      have kL : Bl We wd.heap.size 28 #[.int .i32 bx, .int .i32 ay] := by rw [hWe]; exact Bl.new _ _ _
      have eB : We.heap.size = wd.heap.size + 1 := by rw [hWe]; simp
      clear hWe gWe
      go_upto_region 12 with fail
      obtain ⟨Wf, hWf⟩ : ∃ Wf, Wf = We.alloc (.cells #[.int .i32 ax, .int .i32 by_] 28) := ⟨_, rfl⟩
      rw [← hWf]
      have gWf : Below We.heap.size We Wf := by rw [hWf]; exact ((Gr.refl _).alloc _).below
      replace hX := hid' (hX.out.mono gWf)
      replace gb := hid' (gb.out.trans (gWf.mono gb.out.size))
      replace kL := kL.below gWf
      clear a0 a1 b0 b1 p0 p1 q0 q1
      obtain ⟨a0, a1, b0, b1, p0, p1, q0, q1⟩ := hX.out
      dsimp only at a0 a1 b0 b1
      have kH : Bl Wf We.heap.size 28 #[.int .i32 ax, .int .i32 by_] := by rw [hWf]; exact Bl.new _ _ _
      rw [eB] at kH
      clear hWf gWf eB
      generalize wd.heap.size = Bw at *
      have l0 := kL.cell (i := 0) rfl
      have l1 := kL.cell (i := 1) rfl
      have h0 := kH.cell (i := 0) rfl
      have h1 := kH.cell (i := 1) rfl
      go_upto_region 13 with fail
      obtain ⟨Wg, hWg⟩ : ∃ Wg, Wg = (Wf.alloc (.cells #[.int .i32 bx, .int .i32 ay, .int .i32 ax, .int .i32 by_] 28)).alloc (.cells #[.int .u8 3, .slice (some ⟨Wf.heap.size, 0, none⟩) 2 2, .slice none 0 0, .int .i32 0] 26) := ⟨_, rfl⟩
      rw [← hWg]
      have gg : Below Wf.heap.size Wf Wg := by rw [hWg]; exact (((Gr.refl _).alloc _).alloc _).below
      have kS : Bl Wg (Wf.heap.size + 1) 26 #[.int .u8 3, .slice (some ⟨Wf.heap.size, 0, none⟩) 2 2, .slice none 0 0, .int .i32 0] := by rw [hWg]; have := Bl.new (Wf.alloc (.cells #[.int .i32 bx, .int .i32 ay, .int .i32 ax, .int .i32 by_] 28)) 26 #[.int .u8 3, .slice (some ⟨Wf.heap.size, 0, none⟩) 2 2, .slice none 0 0, .int .i32 0]; rwa [World.size_alloc] at this
      have hD : Pts Wg (some ⟨Wf.heap.size, 0, none⟩) [((bx, ay) : P2), ((ax, by_) : P2)] := by rw [hWg]; exact pts2_new _ ((bx, ay) : P2) ((ax, by_) : P2) _
      replace hX := hid' (hX.out.mono gg)
      replace gb := hid' (gb.out.trans (gg.mono gb.out.size))
      replace kL := kL.below gg
      replace kH := kH.below gg
      clear hWg gg a0 a1 b0 b1 p0 p1 q0 q1 l0 l1 h0 h1
      generalize Wf.heap.size = B3 at *
      have hll : lat ((bx, ay) : P2) ∧ lat ((ax, by_) : P2) := by have := L.out.1; unfold lat at *; simp only at *; omega
      have C14 : Hid (Calls Tryz.prog 14 #[shp 3 0 (some ⟨B3, 0, none⟩) none 2 2 0 0] Wg fun e w' => e = .returned (.int .i64 0) ∧ Below Wg.heap.size Wg w') := box_chk hll.1 hll.2 (by show bx ≤ ax; omega) (by show ay ≤ by_; omega) hD
      have s0' := kS.cell (i := 0) rfl
      have s1' := kS.cell (i := 1) rfl
      have s2' := kS.cell (i := 2) rfl
      have s3' := kS.cell (i := 3) rfl
      go_upto_region 17 with (go_at_call 14; refine C14.out.mono ?_; rintro e wh ⟨rfl, gh⟩; have l0 := (kL.below gh).cell (i := 0) rfl; have l1 := (kL.below gh).cell (i := 1) rfl; have h0 := (kH.below gh).cell (i := 0) rfl; have h1 := (kH.below gh).cell (i := 1) rfl)
      replace hX := hid' (hX.out.mono gh)
      replace gb := hid' (gb.out.trans (gh.mono gb.out.size))
      replace kL := kL.below gh
      replace kH := kH.below gh
      replace kS := kS.below gh
      replace hD := hD.mono gh
      clear C14 gh s0' s1' s2' s3'
      go_upto_region 18 with fail
      obtain ⟨Wi, hWi⟩ : ∃ Wi, Wi = (wh.alloc (.cells #[.int .i32 bx, .int .i32 ay, .int .i32 ax, .int .i32 ay, .int .i32 ax, .int .i32 by_, .int .i32 bx, .int .i32 by_] 28)).alloc (.cells #[.int .u8 1, .slice (some ⟨wh.heap.size, 0, none⟩) 4 4, .slice none 0 0, .int .i32 0] 26) := ⟨_, rfl⟩
      rw [← hWi]
      have gi : Below wh.heap.size wh Wi := by rw [hWi]; exact (((Gr.refl _).alloc _).alloc _).below
      have kT : Bl Wi (wh.heap.size + 1) 26 #[.int .u8 1, .slice (some ⟨wh.heap.size, 0, none⟩) 4 4, .slice none 0 0, .int .i32 0] := by rw [hWi]; have := Bl.new (wh.alloc (.cells #[.int .i32 bx, .int .i32 ay, .int .i32 ax, .int .i32 ay, .int .i32 ax, .int .i32 by_, .int .i32 bx, .int .i32 by_] 28)) 26 #[.int .u8 1, .slice (some ⟨wh.heap.size, 0, none⟩) 4 4, .slice none 0 0, .int .i32 0]; rwa [World.size_alloc] at this
      have hE : Pts Wi (some ⟨wh.heap.size, 0, none⟩) (crnL ((bx, ay) : P2) ((ax, by_) : P2)) := by rw [hWi]; exact (eight_pts (Bl.new wh 28 _)).mono ((Gr.refl _).alloc _).below
      replace hX := hid' (hX.out.mono gi)
      replace gb := hid' (gb.out.trans (gi.mono gb.out.size))
      replace kS := kS.below gi
      replace hD := hD.mono gi
      clear hWi gi l0 l1 h0 h1 kL kH
      generalize wh.heap.size = B4 at *
      have Q14 : Hid (∀ d os, Calls Tryz.prog 14 #[shp 1 0 (some ⟨B4, 0, none⟩) none 4 4 0 0] (grow (redrawn Wi d) os) fun e w' => e = .returned (.int .i64 0) ∧ ∃ p : Regrown, w' = grow (redrawn Wi p.d) p.os) := fun d os => Calls.regrown_of (pol_chk hll.1 hll.2 (by show bx < ax; omega) (by show ay < by_; omega) (hE.mono (below_regrown Wi d os)))
      have Q15 : Hid (∀ (k : Int) (B m : Nat) d os, ((k = 3 ∧ B = B3 ∧ m = 2) ∨ (k = 1 ∧ B = B4 ∧ m = 4)) → Calls Tryz.prog 15 #[shp k 0 (some ⟨B, 0, none⟩) none m m 0 0, pt p.1 p.2] (grow (redrawn Wi d) os) fun e w' => e = .returned (.bool (hasB bx ay ax by_ p.1 p.2)) ∧ ∃ p : Regrown, w' = grow (redrawn Wi p.d) p.os) := fun k B m d os hk => by
        rcases hk with ⟨rfl, rfl, rfl⟩ | ⟨rfl, rfl, rfl⟩
        · exact Calls.regrown_of (box_cov hll.1 hll.2 (by show bx ≤ ax; omega) (by show ay ≤ by_; omega) (hD.mono (below_regrown Wi d os)))
        · exact Calls.regrown_of (pol_cov hll.1 hll.2 L.out.2.1 (by show bx < ax; omega) (by show ay < by_; omega) (hE.mono (below_regrown Wi d os)))
      have Q17 : Hid (∀ (k : Int) (B m : Nat) d os, ((k = 3 ∧ B = B3 ∧ m = 2) ∨ (k = 1 ∧ B = B4 ∧ m = 4)) → Calls Tryz.prog 17 #[shp k 0 (some ⟨B, 0, none⟩) none m m 0 0, pt p.1 p.2, pt q.1 q.2] (grow (redrawn Wi d) os) fun e w' => e = .returned (.bool (rectM ((bx, ay) : P2) ((ax, by_) : P2) p q)) ∧ ∃ p : Regrown, w' = grow (redrawn Wi p.d) p.os) := fun k B m d os hk => by
        rcases hk with ⟨rfl, rfl, rfl⟩ | ⟨rfl, rfl, rfl⟩
        · exact Calls.regrown_of (box_mee hll.1 hll.2 (by show bx ≤ ax; omega) (by show ay ≤ by_; omega) (hD.mono (below_regrown Wi d os)))
        · exact Calls.regrown_of (pol_mee hll.1 hll.2 L.out.2.1 (by show bx < ax; omega) (by show ay < by_; omega) (hE.mono (below_regrown Wi d os)))
      have Q13 : Hid (∀ d os, Calls Tryz.prog 13 #[] (grow (redrawn Wi d) os) fun e w' => e = .returned (.bool true) ∧ ∃ p : Regrown, w' = grow (redrawn Wi p.d) p.os) := fun d os => Calls.regrown_of ((works_any _).mono fun e w' h => ⟨h.1, h.2.below⟩)
      have s0' := fun d os => cell_regrown (kS.cell (i := 0) rfl) d os
      have s1' := fun d os => cell_regrown (kS.cell (i := 1) rfl) d os
      have s2' := fun d os => cell_regrown (kS.cell (i := 2) rfl) d os
      have s3' := fun d os => cell_regrown (kS.cell (i := 3) rfl) d os
      have t0' := fun d os => cell_regrown (kT.cell (i := 0) rfl) d os
      have t1' := fun d os => cell_regrown (kT.cell (i := 1) rfl) d os
      have t2' := fun d os => cell_regrown (kT.cell (i := 2) rfl) d os
      have t3' := fun d os => cell_regrown (kT.cell (i := 3) rfl) d os
      have p0' := fun d os => cell_regrown hX.out.p0 d os
      have p1' := fun d os => cell_regrown hX.out.p1 d os
      have q0' := fun d os => cell_regrown hX.out.q0 d os
      have q1' := fun d os => cell_regrown hX.out.q1 d os
      clear hD hE kS kT hll
      generalize hasB bx ay ax by_ p.1 p.2 = F3 at *
      generalize rectM ((bx, ay) : P2) ((ax, by_) : P2) p q = F4 at *
      refine wp_region_quiet_below (by kernel_rfl) (by kernel_rfl) ?_
      repeat (go_big_quiet_step (first | exact Q14.out _ _ | exact Q15.out _ _ _ _ _ (by simp) | exact Q17.out _ _ _ _ _ (by simp) | exact Q13.out _ _))
      refine wpQuiet_nil ?_
      rintro _ ⟨⟨dq, osq⟩, rfl⟩
      have hc := hid' (below_regrown Wi dq osq)
      go_wp2
      go_ret
      exact ⟨by simp, gb.out.trans (hc.out.mono gb.out.size)⟩
    · skip
      subst hy
      have hxb : (ax == bx) = false := by simp; omega
      have hx2 : ¬ ax < bx := by omega
      have hx3 : ¬ ax ≤ bx := by omega
      have hx4 : bx ≤ ax := by omega
      have hxc : (bx == ax) = false := by simp; omega
      obtain ⟨a0, a1, b0, b1, p0, p1, q0, q1⟩ := hX.out
      dsimp only at a0 a1 b0 b1
      go_upto_region 8 with fail
      obtain ⟨W8, hW8⟩ : ∃ W8, W8 = (wc.alloc (.cells #[.int .i32 ax, .int .i32 ay, .int .i32 bx, .int .i32 ay] 28)).alloc (.cells #[.int .u8 4, .slice (some ⟨wc.heap.size, 0, none⟩) 2 2, .slice none 0 0, .int .i32 0] 26) := ⟨_, rfl⟩
      rw [← hW8]
      have g8 : Below wc.heap.size wc W8 := by rw [hW8]; exact (((Gr.refl _).alloc _).alloc _).below
      have kS : Bl W8 (wc.heap.size + 1) 26 #[.int .u8 4, .slice (some ⟨wc.heap.size, 0, none⟩) 2 2, .slice none 0 0, .int .i32 0] := by rw [hW8]; have := Bl.new (wc.alloc (.cells #[.int .i32 ax, .int .i32 ay, .int .i32 bx, .int .i32 ay] 28)) 26 #[.int .u8 4, .slice (some ⟨wc.heap.size, 0, none⟩) 2 2, .slice none 0 0, .int .i32 0]; rwa [World.size_alloc] at this
      have hD : Pts W8 (some ⟨wc.heap.size, 0, none⟩) [((ax, ay) : P2), ((bx, ay) : P2)] := by rw [hW8]; exact pts2_new _ ((ax, ay) : P2) ((bx, ay) : P2) _
      replace hX := hid' (hX.out.mono g8)
      replace gb := hid' (gb.out.trans (g8.mono gb.out.size))
      clear hW8 g8 a0 a1 b0 b1 p0 p1 q0 q1
      generalize wc.heap.size = B2 at *
      have hab : ((ax, ay) : P2) ≠ ((bx, ay) : P2) := by intro e; rw [Prod.ext_iff] at e; simp at e; omega
      have Q15 : Hid (∀ d os, Calls Tryz.prog 15 #[shp 4 0 (some ⟨B2, 0, none⟩) none 2 2 0 0, pt p.1 p.2] (grow (redrawn W8 d) os) fun e w' => e = .returned (.bool (onP p ((ax, ay) : P2) ((bx, ay) : P2))) ∧ ∃ p : Regrown, w' = grow (redrawn W8 p.d) p.os) := fun d os => Calls.regrown_of (corr_cov hab L.out.1.1 L.out.1.2 L.out.2.1 (hD.mono (below_regrown W8 d os)))
      have Q17 : Hid (∀ d os, Calls Tryz.prog 17 #[shp 4 0 (some ⟨B2, 0, none⟩) none 2 2 0 0, pt p.1 p.2, pt q.1 q.2] (grow (redrawn W8 d) os) fun e w' => e = .returned (.bool (touch6 ((ax, ay) : P2) ((bx, ay) : P2) p q)) ∧ ∃ p : Regrown, w' = grow (redrawn W8 p.d) p.os) := fun d os => Calls.regrown_of (corr_mee hab L.out.1.1 L.out.1.2 L.out.2.1 L.out.2.2 (hD.mono (below_regrown W8 d os)))
      have Q31 : Hid (∀ d os, Calls Tryz.prog 31 #[pt p.1 p.2, pt ax ay, pt bx ay] (grow (redrawn W8 d) os) fun e w' => e = .returned (.bool (onP p ((ax, ay) : P2) ((bx, ay) : P2))) ∧ ∃ p : Regrown, w' = grow (redrawn W8 p.d) p.os) := fun d os => Calls.regrown_of ((on6_any p ((ax, ay) : P2) ((bx, ay) : P2) L.out.2.1 L.out.1.1 L.out.1.2 _).mono fun e w' h => ⟨h.1, h.2.below⟩)
      have Q32 : Hid (∀ d os, Calls Tryz.prog 32 #[pt ax ay, pt bx ay, pt p.1 p.2, pt q.1 q.2] (grow (redrawn W8 d) os) fun e w' => e = .returned (.bool (touch6 ((ax, ay) : P2) ((bx, ay) : P2) p q)) ∧ ∃ p : Regrown, w' = grow (redrawn W8 p.d) p.os) := fun d os => Calls.regrown_of ((touch6_any ((ax, ay) : P2) ((bx, ay) : P2) p q L.out.1.1 L.out.1.2 L.out.2.1 L.out.2.2 _).mono fun e w' h => ⟨h.1, h.2.below⟩)
      clear hD hab
      have s0' := fun d os => cell_regrown (kS.cell (i := 0) rfl) d os
      have s1' := fun d os => cell_regrown (kS.cell (i := 1) rfl) d os
      have s2' := fun d os => cell_regrown (kS.cell (i := 2) rfl) d os
      have s3' := fun d os => cell_regrown (kS.cell (i := 3) rfl) d os
      have a0' := fun d os => cell_regrown hX.out.a0 d os
      have a1' := fun d os => cell_regrown hX.out.a1 d os
      have b0' := fun d os => cell_regrown hX.out.b0 d os
      have b1' := fun d os => cell_regrown hX.out.b1 d os
      have p0' := fun d os => cell_regrown hX.out.p0 d os
      have p1' := fun d os => cell_regrown hX.out.p1 d os
      have q0' := fun d os => cell_regrown hX.out.q0 d os
      have q1' := fun d os => cell_regrown hX.out.q1 d os
      dsimp only at a0' a1' b0' b1'
      clear kS
      generalize onP p ((ax, ay) : P2) ((bx, ay) : P2) = F1 at *
      generalize touch6 ((ax, ay) : P2) ((bx, ay) : P2) p q = F2 at *
      refine wp_region_quiet_below (by kernel_rfl) (by kernel_rfl) ?_
      repeat (go_big_quiet_step (first | exact Q15.out _ _ | exact Q17.out _ _ | exact Q31.out _ _ | exact Q32.out _ _))
      refine wpQuiet_nil ?_
      rintro _ ⟨⟨dq, osq⟩, rfl⟩
      have hc := below_regrown W8 dq osq
      generalize grow (redrawn W8 dq) osq = wd at *
      replace hX := hid' (hX.out.mono hc)
      replace gb := hid' (gb.out.trans (hc.mono gb.out.size))
      clear Q15 Q17 Q31 Q32 s0' s1' s2' s3' a0' a1' b0' b1' p0' p1' q0' q1' hc
      obtain ⟨a0, a1, b0, b1, p0, p1, q0, q1⟩ := hX.out
      dsimp only at a0 a1 b0 b1
      go_upto_region 11 with fail
      obtain ⟨We, hWe⟩ : ∃ We, We = wd.alloc (.cells #[.int .i32 bx, .int .i32 ay] 28) := ⟨_, rfl⟩
      rw [← hWe]
      have gWe : Below wd.heap.size wd We := by rw [hWe]; exact ((Gr.refl _).alloc _).below
      replace hX := hid' (hX.out.mono gWe)
      replace gb := hid' (gb.out.trans (gWe.mono gb.out.size))
      clear a0 a1 b0 b1 p0 p1 q0 q1
      obtain ⟨a0, a1, b0, b1, p0, p1, q0, q1⟩ := hX.out
      dsimp only at a0 a1 b0 b1
      have kL : Bl We wd.heap.size 28 #[.int .i32 bx, .int .i32 ay] := by rw [hWe]; exact Bl.new _ _ _
      have eB : We.heap.size = wd.heap.size + 1 := by rw [hWe]; simp
      clear hWe gWe
      go_upto_region 12 with fail
      obtain ⟨Wf, hWf⟩ : ∃ Wf, Wf = We.alloc (.cells #[.int .i32 ax, .int .i32 ay] 28) := ⟨_, rfl⟩
      rw [← hWf]
      have gWf : Below We.heap.size We Wf := by rw [hWf]; exact ((Gr.refl _).alloc _).below
      replace hX := hid' (hX.out.mono gWf)
      replace gb := hid' (gb.out.trans (gWf.mono gb.out.size))
      replace kL := kL.below gWf
      clear a0 a1 b0 b1 p0 p1 q0 q1
      obtain ⟨a0, a1, b0, b1, p0, p1, q0, q1⟩ := hX.out
      dsimp only at a0 a1 b0 b1
      have kH : Bl Wf We.heap.size 28 #[.int .i32 ax, .int .i32 ay] := by rw [hWf]; exact Bl.new _ _ _
      rw [eB] at kH
      clear hWf gWf eB
      generalize wd.heap.size = Bw at *
      have l0 := kL.cell (i := 0) rfl
      have l1 := kL.cell (i := 1) rfl
      have h0 := kH.cell (i := 0) rfl
      have h1 := kH.cell (i := 1) rfl
      go_upto_region 13 with fail
      obtain ⟨Wg, hWg⟩ : ∃ Wg, Wg = (Wf.alloc (.cells #[.int .i32 bx, .int .i32 ay, .int .i32 ax, .int .i32 ay] 28)).alloc (.cells #[.int .u8 3, .slice (some ⟨Wf.heap.size, 0, none⟩) 2 2, .slice none 0 0, .int .i32 0] 26) := ⟨_, rfl⟩
      rw [← hWg]
      have gg : Below Wf.heap.size Wf Wg := by rw [hWg]; exact (((Gr.refl _).alloc _).alloc _).below
      have kS : Bl Wg (Wf.heap.size + 1) 26 #[.int .u8 3, .slice (some ⟨Wf.heap.size, 0, none⟩) 2 2, .slice none 0 0, .int .i32 0] := by rw [hWg]; have := Bl.new (Wf.alloc (.cells #[.int .i32 bx, .int .i32 ay, .int .i32 ax, .int .i32 ay] 28)) 26 #[.int .u8 3, .slice (some ⟨Wf.heap.size, 0, none⟩) 2 2, .slice none 0 0, .int .i32 0]; rwa [World.size_alloc] at this
      have hD : Pts Wg (some ⟨Wf.heap.size, 0, none⟩) [((bx, ay) : P2), ((ax, ay) : P2)] := by rw [hWg]; exact pts2_new _ ((bx, ay) : P2) ((ax, ay) : P2) _
      replace hX := hid' (hX.out.mono gg)
      replace gb := hid' (gb.out.trans (gg.mono gb.out.size))
      replace kL := kL.below gg
      replace kH := kH.below gg
      clear hWg gg a0 a1 b0 b1 p0 p1 q0 q1 l0 l1 h0 h1
      generalize Wf.heap.size = B3 at *
      have hll : lat ((bx, ay) : P2) ∧ lat ((ax, ay) : P2) := by have := L.out.1; unfold lat at *; simp only at *; omega
      have C14 : Hid (Calls Tryz.prog 14 #[shp 3 0 (some ⟨B3, 0, none⟩) none 2 2 0 0] Wg fun e w' => e = .returned (.int .i64 0) ∧ Below Wg.heap.size Wg w') := box_chk hll.1 hll.2 (by show bx ≤ ax; omega) (by show ay ≤ ay; omega) hD
      have s0' := kS.cell (i := 0) rfl
      have s1' := kS.cell (i := 1) rfl
      have s2' := kS.cell (i := 2) rfl
      have s3' := kS.cell (i := 3) rfl
      go_upto_region 16 with (go_at_call 14; refine C14.out.mono ?_; rintro e wh ⟨rfl, gh⟩; have l0 := (kL.below gh).cell (i := 0) rfl; have l1 := (kL.below gh).cell (i := 1) rfl; have h0 := (kH.below gh).cell (i := 0) rfl; have h1 := (kH.below gh).cell (i := 1) rfl)
      replace hX := hid' (hX.out.mono gh)
      replace gb := hid' (gb.out.trans (gh.mono gb.out.size))
      replace kL := kL.below gh
      replace kH := kH.below gh
      replace kS := kS.below gh
      replace hD := hD.mono gh
      clear C14 gh s0' s1' s2' s3'
      clear l0 l1 h0 h1
      have Q15 : Hid (∀ d os, Calls Tryz.prog 15 #[shp 3 0 (some ⟨B3, 0, none⟩) none 2 2 0 0, pt p.1 p.2] (grow (redrawn wh d) os) fun e w' => e = .returned (.bool (onP p ((bx, ay) : P2) ((ax, ay) : P2))) ∧ ∃ p : Regrown, w' = grow (redrawn wh p.d) p.os) := fun d os => Calls.regrown_of (by rw [← has_line (a := ((bx, ay) : P2)) (b := ((ax, ay) : P2)) (p := p) (by show bx ≤ ax; omega) (by show ay ≤ ay; omega) (by show bx = ax ∨ ay = ay; omega)]; exact box_cov hll.1 hll.2 (by show bx ≤ ax; omega) (by show ay ≤ ay; omega) (hD.mono (below_regrown wh d os)))
      have Q31 : Hid (∀ d os, Calls Tryz.prog 31 #[pt p.1 p.2, pt bx ay, pt ax ay] (grow (redrawn wh d) os) fun e w' => e = .returned (.bool (onP p ((bx, ay) : P2) ((ax, ay) : P2))) ∧ ∃ p : Regrown, w' = grow (redrawn wh p.d) p.os) := fun d os => Calls.regrown_of ((on6_any p ((bx, ay) : P2) ((ax, ay) : P2) L.out.2.1 hll.1 hll.2 _).mono fun e w' h => ⟨h.1, h.2.below⟩)
      have Q13 : Hid (∀ d os, Calls Tryz.prog 13 #[] (grow (redrawn wh d) os) fun e w' => e = .returned (.bool true) ∧ ∃ p : Regrown, w' = grow (redrawn wh p.d) p.os) := fun d os => Calls.regrown_of ((works_any _).mono fun e w' h => ⟨h.1, h.2.below⟩)
      have s0' := fun d os => cell_regrown (kS.cell (i := 0) rfl) d os
      have s1' := fun d os => cell_regrown (kS.cell (i := 1) rfl) d os
      have s2' := fun d os => cell_regrown (kS.cell (i := 2) rfl) d os
      have s3' := fun d os => cell_regrown (kS.cell (i := 3) rfl) d os
      have l0' := fun d os => cell_regrown (kL.cell (i := 0) rfl) d os
      have l1' := fun d os => cell_regrown (kL.cell (i := 1) rfl) d os
      have h0' := fun d os => cell_regrown (kH.cell (i := 0) rfl) d os
      have h1' := fun d os => cell_regrown (kH.cell (i := 1) rfl) d os
      have p0' := fun d os => cell_regrown hX.out.p0 d os
      have p1' := fun d os => cell_regrown hX.out.p1 d os
      clear hD kS kL kH hll
      generalize onP p ((bx, ay) : P2) ((ax, ay) : P2) = F3 at *
      refine wp_region_quiet_below (by kernel_rfl) (by kernel_rfl) ?_
      repeat (go_big_quiet_step (first | exact Q15.out _ _ | exact Q31.out _ _ | exact Q13.out _ _))
      refine wpQuiet_nil ?_
      rintro _ ⟨⟨dq, osq⟩, rfl⟩
      have hc := hid' (below_regrown wh dq osq)
      go_wp2
      go_ret
      exact ⟨by simp, gb.out.trans (hc.out.mono gb.out.size)⟩
    · skip
      have hxb : (ax == bx) = false := by simp; omega
      have hx2 : ¬ ax < bx := by omega
      have hx3 : ¬ ax ≤ bx := by omega
      have hx4 : bx ≤ ax := by omega
      have hxc : (bx == ax) = false := by simp; omega
      have hyb : (ay == by_) = false := by simp; omega
      have hy2 : ¬ ay < by_ := by omega
      have hy3 : ¬ ay ≤ by_ := by omega
      have hy4 : by_ ≤ ay := by omega
      have hyc : (by_ == ay) = false := by simp; omega
      obtain ⟨a0, a1, b0, b1, p0, p1, q0, q1⟩ := hX.out
      dsimp only at a0 a1 b0 b1
      go_upto_region 8 with fail
      obtain ⟨W8, hW8⟩ : ∃ W8, W8 = (wc.alloc (.cells #[.int .i32 ax, .int .i32 ay, .int .i32 bx, .int .i32 by_] 28)).alloc (.cells #[.int .u8 4, .slice (some ⟨wc.heap.size, 0, none⟩) 2 2, .slice none 0 0, .int .i32 0] 26) := ⟨_, rfl⟩
      rw [← hW8]
      have g8 : Below wc.heap.size wc W8 := by rw [hW8]; exact (((Gr.refl _).alloc _).alloc _).below
      have kS : Bl W8 (wc.heap.size + 1) 26 #[.int .u8 4, .slice (some ⟨wc.heap.size, 0, none⟩) 2 2, .slice none 0 0, .int .i32 0] := by rw [hW8]; have := Bl.new (wc.alloc (.cells #[.int .i32 ax, .int .i32 ay, .int .i32 bx, .int .i32 by_] 28)) 26 #[.int .u8 4, .slice (some ⟨wc.heap.size, 0, none⟩) 2 2, .slice none 0 0, .int .i32 0]; rwa [World.size_alloc] at this
      have hD : Pts W8 (some ⟨wc.heap.size, 0, none⟩) [((ax, ay) : P2), ((bx, by_) : P2)] := by rw [hW8]; exact pts2_new _ ((ax, ay) : P2) ((bx, by_) : P2) _
      replace hX := hid' (hX.out.mono g8)
      replace gb := hid' (gb.out.trans (g8.mono gb.out.size))
      clear hW8 g8 a0 a1 b0 b1 p0 p1 q0 q1
      generalize wc.heap.size = B2 at *
      have hab : ((ax, ay) : P2) ≠ ((bx, by_) : P2) := by intro e; rw [Prod.ext_iff] at e; simp at e; omega
      have Q15 : Hid (∀ d os, Calls Tryz.prog 15 #[shp 4 0 (some ⟨B2, 0, none⟩) none 2 2 0 0, pt p.1 p.2] (grow (redrawn W8 d) os) fun e w' => e = .returned (.bool (onP p ((ax, ay) : P2) ((bx, by_) : P2))) ∧ ∃ p : Regrown, w' = grow (redrawn W8 p.d) p.os) := fun d os => Calls.regrown_of (corr_cov hab L.out.1.1 L.out.1.2 L.out.2.1 (hD.mono (below_regrown W8 d os)))
      have Q17 : Hid (∀ d os, Calls Tryz.prog 17 #[shp 4 0 (some ⟨B2, 0, none⟩) none 2 2 0 0, pt p.1 p.2, pt q.1 q.2] (grow (redrawn W8 d) os) fun e w' => e = .returned (.bool (touch6 ((ax, ay) : P2) ((bx, by_) : P2) p q)) ∧ ∃ p : Regrown, w' = grow (redrawn W8 p.d) p.os) := fun d os => Calls.regrown_of (corr_mee hab L.out.1.1 L.out.1.2 L.out.2.1 L.out.2.2 (hD.mono (below_regrown W8 d os)))
      have Q31 : Hid (∀ d os, Calls Tryz.prog 31 #[pt p.1 p.2, pt ax ay, pt bx by_] (grow (redrawn W8 d) os) fun e w' => e = .returned (.bool (onP p ((ax, ay) : P2) ((bx, by_) : P2))) ∧ ∃ p : Regrown, w' = grow (redrawn W8 p.d) p.os) := fun d os => Calls.regrown_of ((on6_any p ((ax, ay) : P2) ((bx, by_) : P2) L.out.2.1 L.out.1.1 L.out.1.2 _).mono fun e w' h => ⟨h.1, h.2.below⟩)
      have Q32 : Hid (∀ d os, Calls Tryz.prog 32 #[pt ax ay, pt bx by_, pt p.1 p.2, pt q.1 q.2] (grow (redrawn W8 d) os) fun e w' => e = .returned (.bool (touch6 ((ax, ay) : P2) ((bx, by_) : P2) p q)) ∧ ∃ p : Regrown, w' = grow (redrawn W8 p.d) p.os) := fun d os => Calls.regrown_of ((touch6_any ((ax, ay) : P2) ((bx, by_) : P2) p q L.out.1.1 L.out.1.2 L.out.2.1 L.out.2.2 _).mono fun e w' h => ⟨h.1, h.2.below⟩)
      clear hD hab
      have s0' := fun d os => cell_regrown (kS.cell (i := 0) rfl) d os
      have s1' := fun d os => cell_regrown (kS.cell (i := 1) rfl) d os
      have s2' := fun d os => cell_regrown (kS.cell (i := 2) rfl) d os
      have s3' := fun d os => cell_regrown (kS.cell (i := 3) rfl) d os
      have a0' := fun d os => cell_regrown hX.out.a0 d os
      have a1' := fun d os => cell_regrown hX.out.a1 d os
      have b0' := fun d os => cell_regrown hX.out.b0 d os
      have b1' := fun d os => cell_regrown hX.out.b1 d os
      have p0' := fun d os => cell_regrown hX.out.p0 d os
      have p1' := fun d os => cell_regrown hX.out.p1 d os
      have q0' := fun d os => cell_regrown hX.out.q0 d os
      have q1' := fun d os => cell_regrown hX.out.q1 d os
      dsimp only at a0' a1' b0' b1'
      clear kS
      generalize onP p ((ax, ay) : P2) ((bx, by_) : P2) = F1 at *
      generalize touch6 ((ax, ay) : P2) ((bx, by_) : P2) p q = F2 at *
      refine wp_region_quiet_below (by kernel_rfl) (by kernel_rfl) ?_
      repeat (go_big_quiet_step (first | exact Q15.out _ _ | exact Q17.out _ _ | exact Q31.out _ _ | exact Q32.out _ _))
      refine wpQuiet_nil ?_
      rintro _ ⟨⟨dq, osq⟩, rfl⟩
      have hc := below_regrown W8 dq osq
      generalize grow (redrawn W8 dq) osq = wd at *
      replace hX := hid' (hX.out.mono hc)
      replace gb := hid' (gb.out.trans (hc.mono gb.out.size))
      clear Q15 Q17 Q31 Q32 s0' s1' s2' s3' a0' a1' b0' b1' p0' p1' q0' q1' hc
      obtain ⟨a0, a1, b0, b1, p0, p1, q0, q1⟩ := hX.out
      dsimp only at a0 a1 b0 b1
      go_upto_region 11 with fail
      obtain ⟨We, hWe⟩ : ∃ We, We = wd.alloc (.cells #[.int .i32 bx, .int .i32 by_] 28) := ⟨_, rfl⟩
      rw [← hWe]
      have gWe : Below wd.heap.size wd We := by rw [hWe]; exact ((Gr.refl _).alloc _).below
      replace hX := hid' (hX.out.mono gWe)
      replace gb := hid' (gb.out.trans (gWe.mono gb.out.size))
      clear a0 a1 b0 b1 p0 p1 q0 q1
      obtain ⟨a0, a1, b0, b1, p0, p1, q0, q1⟩ := hX.out
      dsimp only at a0 a1 b0 b1
      have kL : Bl We wd.heap.size 28 #[.int .i32 bx, .int .i32 by_] := by rw [hWe]; exact Bl.new _ _ _
      have eB : We.heap.size = wd.heap.size + 1 := by rw [hWe]; simp
      clear hWe gWe
      go_upto_region 12 with fail
      obtain ⟨Wf, hWf⟩ : ∃ Wf, Wf = We.alloc (.cells #[.int .i32 ax, .int .i32 ay] 28) := ⟨_, rfl⟩
      rw [← hWf]
      have gWf : Below We.heap.size We Wf := by rw [hWf]; exact ((Gr.refl _).alloc _).below
      replace hX := hid' (hX.out.mono gWf)
      replace gb := hid' (gb.out.trans (gWf.mono gb.out.size))
      replace kL := kL.below gWf
      clear a0 a1 b0 b1 p0 p1 q0 q1
      obtain ⟨a0, a1, b0, b1, p0, p1, q0, q1⟩ := hX.out
      dsimp only at a0 a1 b0 b1
      have kH : Bl Wf We.heap.size 28 #[.int .i32 ax, .int .i32 ay] := by rw [hWf]; exact Bl.new _ _ _
      rw [eB] at kH
      clear hWf gWf eB
      generalize wd.heap.size = Bw at *
      have l0 := kL.cell (i := 0) rfl
      have l1 := kL.cell (i := 1) rfl
      have h0 := kH.cell (i := 0) rfl
      have h1 := kH.cell (i := 1) rfl
      go_upto_region 13 with fail
      obtain ⟨Wg, hWg⟩ : ∃ Wg, Wg = (Wf.alloc (.cells #[.int .i32 bx, .int .i32 by_, .int .i32 ax, .int .i32 ay] 28)).alloc (.cells #[.int .u8 3, .slice (some ⟨Wf.heap.size, 0, none⟩) 2 2, .slice none 0 0, .int .i32 0] 26) := ⟨_, rfl⟩
      rw [← hWg]
      have gg : Below Wf.heap.size Wf Wg := by rw [hWg]; exact (((Gr.refl _).alloc _).alloc _).below
      have kS : Bl Wg (Wf.heap.size + 1) 26 #[.int .u8 3, .slice (some ⟨Wf.heap.size, 0, none⟩) 2 2, .slice none 0 0, .int .i32 0] := by rw [hWg]; have := Bl.new (Wf.alloc (.cells #[.int .i32 bx, .int .i32 by_, .int .i32 ax, .int .i32 ay] 28)) 26 #[.int .u8 3, .slice (some ⟨Wf.heap.size, 0, none⟩) 2 2, .slice none 0 0, .int .i32 0]; rwa [World.size_alloc] at this
      have hD : Pts Wg (some ⟨Wf.heap.size, 0, none⟩) [((bx, by_) : P2), ((ax, ay) : P2)] := by rw [hWg]; exact pts2_new _ ((bx, by_) : P2) ((ax, ay) : P2) _
      replace hX := hid' (hX.out.mono gg)
      replace gb := hid' (gb.out.trans (gg.mono gb.out.size))
      replace kL := kL.below gg
      replace kH := kH.below gg
      clear hWg gg a0 a1 b0 b1 p0 p1 q0 q1 l0 l1 h0 h1
      generalize Wf.heap.size = B3 at *
      have hll : lat ((bx, by_) : P2) ∧ lat ((ax, ay) : P2) := by have := L.out.1; unfold lat at *; simp only at *; omega
      have C14 : Hid (Calls Tryz.prog 14 #[shp 3 0 (some ⟨B3, 0, none⟩) none 2 2 0 0] Wg fun e w' => e = .returned (.int .i64 0) ∧ Below Wg.heap.size Wg w') := box_chk hll.1 hll.2 (by show bx ≤ ax; omega) (by show by_ ≤ ay; omega) hD
      have s0' := kS.cell (i := 0) rfl
      have s1' := kS.cell (i := 1) rfl
      have s2' := kS.cell (i := 2) rfl
      have s3' := kS.cell (i := 3) rfl
      go_upto_region 17 with (go_at_call 14; refine C14.out.mono ?_; rintro e wh ⟨rfl, gh⟩; have l0 := (kL.below gh).cell (i := 0) rfl; have l1 := (kL.below gh).cell (i := 1) rfl; have h0 := (kH.below gh).cell (i := 0) rfl; have h1 := (kH.below gh).cell (i := 1) rfl)
      replace hX := hid' (hX.out.mono gh)
      replace gb := hid' (gb.out.trans (gh.mono gb.out.size))
      replace kL := kL.below gh
      replace kH := kH.below gh
      replace kS := kS.below gh
      replace hD := hD.mono gh
      clear C14 gh s0' s1' s2' s3'
      go_upto_region 18 with fail
      obtain ⟨Wi, hWi⟩ : ∃ Wi, Wi = (wh.alloc (.cells #[.int .i32 bx, .int .i32 by_, .int .i32 ax, .int .i32 by_, .int .i32 ax, .int .i32 ay, .int .i32 bx, .int .i32 ay] 28)).alloc (.cells #[.int .u8 1, .slice (some ⟨wh.heap.size, 0, none⟩) 4 4, .slice none 0 0, .int .i32 0] 26) := ⟨_, rfl⟩
      rw [← hWi]
      have gi : Below wh.heap.size wh Wi := by rw [hWi]; exact (((Gr.refl _).alloc _).alloc _).below
      have kT : Bl Wi (wh.heap.size + 1) 26 #[.int .u8 1, .slice (some ⟨wh.heap.size, 0, none⟩) 4 4, .slice none 0 0, .int .i32 0] := by rw [hWi]; have := Bl.new (wh.alloc (.cells #[.int .i32 bx, .int .i32 by_, .int .i32 ax, .int .i32 by_, .int .i32 ax, .int .i32 ay, .int .i32 bx, .int .i32 ay] 28)) 26 #[.int .u8 1, .slice (some ⟨wh.heap.size, 0, none⟩) 4 4, .slice none 0 0, .int .i32 0]; rwa [World.size_alloc] at this
      have hE : Pts Wi (some ⟨wh.heap.size, 0, none⟩) (crnL ((bx, by_) : P2) ((ax, ay) : P2)) := by rw [hWi]; exact (eight_pts (Bl.new wh 28 _)).mono ((Gr.refl _).alloc _).below
      replace hX := hid' (hX.out.mono gi)
      replace gb := hid' (gb.out.trans (gi.mono gb.out.size))
      replace kS := kS.below gi
      replace hD := hD.mono gi
      clear hWi gi l0 l1 h0 h1 kL kH
      generalize wh.heap.size = B4 at *
      have Q14 : Hid (∀ d os, Calls Tryz.prog 14 #[shp 1 0 (some ⟨B4, 0, none⟩) none 4 4 0 0] (grow (redrawn Wi d) os) fun e w' => e = .returned (.int .i64 0) ∧ ∃ p : Regrown, w' = grow (redrawn Wi p.d) p.os) := fun d os => Calls.regrown_of (pol_chk hll.1 hll.2 (by show bx < ax; omega) (by show by_ < ay; omega) (hE.mono (below_regrown Wi d os)))
      have Q15 : Hid (∀ (k : Int) (B m : Nat) d os, ((k = 3 ∧ B = B3 ∧ m = 2) ∨ (k = 1 ∧ B = B4 ∧ m = 4)) → Calls Tryz.prog 15 #[shp k 0 (some ⟨B, 0, none⟩) none m m 0 0, pt p.1 p.2] (grow (redrawn Wi d) os) fun e w' => e = .returned (.bool (hasB bx by_ ax ay p.1 p.2)) ∧ ∃ p : Regrown, w' = grow (redrawn Wi p.d) p.os) := fun k B m d os hk => by
        rcases hk with ⟨rfl, rfl, rfl⟩ | ⟨rfl, rfl, rfl⟩
        · exact Calls.regrown_of (box_cov hll.1 hll.2 (by show bx ≤ ax; omega) (by show by_ ≤ ay; omega) (hD.mono (below_regrown Wi d os)))
        · exact Calls.regrown_of (pol_cov hll.1 hll.2 L.out.2.1 (by show bx < ax; omega) (by show by_ < ay; omega) (hE.mono (below_regrown Wi d os)))
      have Q17 : Hid (∀ (k : Int) (B m : Nat) d os, ((k = 3 ∧ B = B3 ∧ m = 2) ∨ (k = 1 ∧ B = B4 ∧ m = 4)) → Calls Tryz.prog 17 #[shp k 0 (some ⟨B, 0, none⟩) none m m 0 0, pt p.1 p.2, pt q.1 q.2] (grow (redrawn Wi d) os) fun e w' => e = .returned (.bool (rectM ((bx, by_) : P2) ((ax, ay) : P2) p q)) ∧ ∃ p : Regrown, w' = grow (redrawn Wi p.d) p.os) := fun k B m d os hk => by
        rcases hk with ⟨rfl, rfl, rfl⟩ | ⟨rfl, rfl, rfl⟩
        · exact Calls.regrown_of (box_mee hll.1 hll.2 (by show bx ≤ ax; omega) (by show by_ ≤ ay; omega) (hD.mono (below_regrown Wi d os)))
        · exact Calls.regrown_of (pol_mee hll.1 hll.2 L.out.2.1 (by show bx < ax; omega) (by show by_ < ay; omega) (hE.mono (below_regrown Wi d os)))
      have Q13 : Hid (∀ d os, Calls Tryz.prog 13 #[] (grow (redrawn Wi d) os) fun e w' => e = .returned (.bool true) ∧ ∃ p : Regrown, w' = grow (redrawn Wi p.d) p.os) := fun d os => Calls.regrown_of ((works_any _).mono fun e w' h => ⟨h.1, h.2.below⟩)
      have s0' := fun d os => cell_regrown (kS.cell (i := 0) rfl) d os
      have s1' := fun d os => cell_regrown (kS.cell (i := 1) rfl) d os
      have s2' := fun d os => cell_regrown (kS.cell (i := 2) rfl) d os
      have s3' := fun d os => cell_regrown (kS.cell (i := 3) rfl) d os
      have t0' := fun d os => cell_regrown (kT.cell (i := 0) rfl) d os
      have t1' := fun d os => cell_regrown (kT.cell (i := 1) rfl) d os
      have t2' := fun d os => cell_regrown (kT.cell (i := 2) rfl) d os
      have t3' := fun d os => cell_regrown (kT.cell (i := 3) rfl) d os
      have p0' := fun d os => cell_regrown hX.out.p0 d os
      have p1' := fun d os => cell_regrown hX.out.p1 d os
      have q0' := fun d os => cell_regrown hX.out.q0 d os
      have q1' := fun d os => cell_regrown hX.out.q1 d os
      clear hD hE kS kT hll
      generalize hasB bx by_ ax ay p.1 p.2 = F3 at *
      generalize rectM ((bx, by_) : P2) ((ax, ay) : P2) p q = F4 at *
      refine wp_region_quiet_below (by kernel_rfl) (by kernel_rfl) ?_
      repeat (go_big_quiet_step (first | exact Q14.out _ _ | exact Q15.out _ _ _ _ _ (by simp) | exact Q17.out _ _ _ _ _ (by simp) | exact Q13.out _ _))
      refine wpQuiet_nil ?_
      rintro _ ⟨⟨dq, osq⟩, rfl⟩
      have hc := hid' (below_regrown Wi dq osq)
      go_wp2
      go_ret
      exact ⟨by simp, gb.out.trans (hc.out.mono gb.out.size)⟩
end
end Go.Proofs.YtgcofpfjdplopaaGreat
