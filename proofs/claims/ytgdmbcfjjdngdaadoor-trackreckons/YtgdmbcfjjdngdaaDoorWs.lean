/- TrackSpeeds' walk. -/
import Derived.Test.YtgdmbcfjjdngdaaDoorSo
import Derived.Test.YtgdmbcfjjdngdaaDoorLv
set_option linter.unusedSimpArgs false
set_option linter.unusedVariables false
namespace Go.Proofs.YtgdmbcfjjdngdaaDoor
open Go.RowKit Go.Sort Ieee

theorem run7 (n : Int) (w : World) : (callFunc 7 #[.int .u64 n]).run Tryd.prog w = .ok (.value (.float .f64 n.toNat)) w := by
  rw [run_callFunc_extern Tryd.func7 (by kernel_rfl) (by kernel_rfl) (by kernel_rfl) (e := Extern.MathFloatBits.float64frombits) (by kernel_rfl)]
  rfl
/-- An Ask as a value. -/
abbrev aV (o x y u v t0 t : Int) (l : Value) : Value := .agg #[.int .u64 o, .int .i32 x, .int .i32 y, .int .i32 u, .int .i32 v, .int .u32 t0, .int .u32 t, l]
abbrev aL (o x y u v t0 t : Int) (l : Value) : List Value := [.int .u64 o, .int .i32 x, .int .i32 y, .int .i32 u, .int .i32 v, .int .u32 t0, .int .u32 t, l]
theorem fin_of {O : Nat} (hO : O < 18446744073709551616) (h1 : double.order O O = some .eq) (h2 : double.order O 0 ≠ some .lt) (h3 : double.order O 9218868437227405311 ≠ some .gt) : fin O ∧ 0 ≤ sgI O := by
  have hf : fin O := by
    refine ⟨hO, ?_⟩
    apply Classical.byContradiction
    intro hc
    by_cases hn : isN O
    · rw [order_nan_l _ hn] at h1; cases h1
    · have : O = 9218868437227405312 ∨ O = 18442240474082181120 := by unfold isN at hn; omega
      rcases this with rfl | rfl
      · exact h3 (by decide)
      · exact h2 (by decide)
  refine ⟨hf, ?_⟩
  rw [order_fin hf fin0, sgI0] at h2
  apply Classical.byContradiction
  intro hc
  exact h2 (congrArg some (Int.compare_eq_lt.2 (by omega)))
theorem max_run {O q : Nat} (hO : fin O) (hq : fin q) : ∃ m, fin m ∧ sgI m = max (sgI O) (sgI q) ∧ ∀ W, (Builtin.max_ #[29, 29] 29 #[.float .f64 O, .float .f64 q]).run Tryd.prog W = .ok (.float .f64 m) W := by
  have ho := order_fin hO hq
  have e : ∀ W, (Builtin.max_ #[29, 29] 29 #[.float .f64 O, .float .f64 q]).run Tryd.prog W = (Builtin.max2 (.float .f64 O) (.float .f64 q)).run Tryd.prog W := fun W => by
    simp [Builtin.max_]
  rcases Int.lt_trichotomy (sgI O) (sgI q) with h | h | h
  · rw [Int.compare_eq_lt.2 h] at ho
    refine ⟨q, hq, by omega, fun W => ?_⟩
    rw [e]
    have : FloatKind.f64.format.order O q = some .lt := ho
    simp [Builtin.max2, this]
  · rw [Int.compare_eq_eq.2 h] at ho
    have : FloatKind.f64.format.order O q = some .eq := ho
    by_cases c : (FloatKind.f64.decode O).neg = true
    · refine ⟨q, hq, by omega, fun W => ?_⟩
      rw [e]
      simp [Builtin.max2, this, c]
    · refine ⟨O, hO, by omega, fun W => ?_⟩
      rw [e]
      simp [Builtin.max2, this, c]
  · rw [Int.compare_eq_gt.2 h] at ho
    refine ⟨O, hO, by omega, fun W => ?_⟩
    rw [e]
    have : FloatKind.f64.format.order O q = some .gt := ho
    simp [Builtin.max2, this]
theorem ord_le {a b : Nat} (ha : fin a) (hb : fin b) (h : sgI a ≤ sgI b) : FloatKind.f64.format.order a b = some .lt ∨ FloatKind.f64.format.order a b = some .eq := by
  have ho : FloatKind.f64.format.order a b = _ := order_fin ha hb
  rw [ho]
  rcases Int.lt_or_eq_of_le h with h | h
  · exact .inl (congrArg some (Int.compare_eq_lt.2 h))
  · exact .inr (congrArg some (Int.compare_eq_eq.2 h))
theorem ord_ge {a b : Nat} (ha : fin a) (hb : fin b) (h : sgI b ≤ sgI a) : FloatKind.f64.format.order a b = some .gt ∨ FloatKind.f64.format.order a b = some .eq := by
  have ho : FloatKind.f64.format.order a b = _ := order_fin ha hb
  rw [ho]
  rcases Int.lt_or_eq_of_le h with h | h
  · exact .inl (congrArg some (Int.compare_eq_gt.2 h))
  · exact .inr (congrArg some (Int.compare_eq_eq.2 h.symm))
set_option maxRecDepth 20000 in
set_option maxHeartbeats 2000000 in
theorem speeds_walk {O : Nat} {x y u v : Int} {t0 t : Nat} {a : Option Addr} {n c : Nat} (hO : O < 18446744073709551616) (hx : in32 x) (hy : in32 y) (hu : in32 u) (hv : in32 v) (h0 : t0 < 4294967296) (h1 : t < 4294967296) (w : World) (hT : Tab w) :
    Calls Tryd.prog 4 #[aV (O : Int) x y u v (t0 : Int) (t : Int) (.slice a n c)] w fun e w' => e = .returned (.bool true) ∧ Below w.heap.size w w' := by
  have k := Bk.new w 28 (aL (O : Int) x y u v (t0 : Int) (t : Int) (.slice a n c))
  have g := (Gr.refl w).alloc (.cells (aL (O : Int) x y u v (t0 : Int) (t : Int) (.slice a n c)).toArray 28)
  have R7 : ∀ W, (callFunc 7 #[.int .u64 (O : Int)]).run Tryd.prog W = .ok (.value (.float .f64 O)) W := fun W => run7 (O : Int) W
  have WK : Hid (∀ W, Gr w W → Calls Tryd.prog 15 #[] W fun e w' => e = .returned (.bool true) ∧ Below W.heap.size W w') := fun W g => works_any W (hT.below g.below)
  by_cases e1 : FloatKind.f64.format.order O O = some .eq
  rotate_left
  · have d1 : (FloatKind.f64.format.order O O != some .eq) = true := by simpa using e1
    clear e1
    go_enter Tryd.func4, Tryd.ntmps4
    go_upto_region 2 with (simp only [R7])
    generalize World.alloc _ _ = W at *
    have WW := hid0 (WK.out _ g)
    clear WK R7
    go_wp2_with (go_at_call 15; refine WW.out.mono ?_; rintro e w1 ⟨rfl, hb⟩)
    go_ret
    exact ⟨rfl, g.below.trans (hb.mono g.size)⟩
  by_cases e2 : FloatKind.f64.format.order O 0 = some .lt
  · have d1 : (FloatKind.f64.format.order O O != some .eq) = false := by simp [e1]
    have d2 : (FloatKind.f64.format.order O 0 == some .lt) = true := by simp [e2]
    clear e1 e2
    go_enter Tryd.func4, Tryd.ntmps4
    go_upto_region 2 with (simp only [R7])
    generalize World.alloc _ _ = W at *
    have WW := hid0 (WK.out _ g)
    clear WK R7
    go_wp2_with (go_at_call 15; refine WW.out.mono ?_; rintro e w1 ⟨rfl, hb⟩)
    go_ret
    exact ⟨rfl, g.below.trans (hb.mono g.size)⟩
  by_cases e3 : FloatKind.f64.format.order O 9218868437227405311 = some .gt
  · have d1 : (FloatKind.f64.format.order O O != some .eq) = false := by simp [e1]
    have d2 : (FloatKind.f64.format.order O 0 == some .lt) = false := by simpa using e2
    have d3 : (FloatKind.f64.format.order O 9218868437227405311 == some .gt) = true := by simp [e3]
    clear e1 e2 e3
    go_enter Tryd.func4, Tryd.ntmps4
    go_upto_region 2 with (simp only [R7])
    generalize World.alloc _ _ = W at *
    have WW := hid0 (WK.out _ g)
    clear WK R7
    go_wp2_with (go_at_call 15; refine WW.out.mono ?_; rintro e w1 ⟨rfl, hb⟩)
    go_ret
    exact ⟨rfl, g.below.trans (hb.mono g.size)⟩
  obtain ⟨hf, hp⟩ := fin_of hO e1 e2 e3
  have d1 : (FloatKind.f64.format.order O O != some .eq) = false := by simp [e1]
  have d2 : (FloatKind.f64.format.order O 0 == some .lt) = false := by simpa using e2
  have d3 : (FloatKind.f64.format.order O 9218868437227405311 == some .gt) = false := by simpa using e3
  clear e1 e2 e3
  have e1' : (FloatKind.f64.format.order O O == some .eq) = true := by simpa using d1
  by_cases hc : t ≤ t0
  · have S1 : Hid (∀ W p q, (p = u ∧ q = v ∨ p = x ∧ q = y) → Calls Tryd.prog 10 #[.float .f64 O, pt x y, pt p q, .int .u32 (t0 : Int), .int .u32 (t : Int)] W fun e w' => e = .returned (.float .f64 O) ∧ Gr W w') := fun W p q hpq => by
      refine (speed_any (V.refl hO) hx hy (u := p) (v := q) (by rcases hpq with ⟨rfl, rfl⟩ | ⟨rfl, rfl⟩ <;> assumption) (by rcases hpq with ⟨rfl, rfl⟩ | ⟨rfl, rfl⟩ <;> assumption) h0 h1 W).mono ?_
      rintro e w' ⟨r, rfl, hr, hg⟩
      unfold spF at hr
      rw [if_pos hc] at hr
      rw [hr.eq (fin_num hf)]
      exact ⟨rfl, hg⟩
    have dc : decide ((t : Int) ≤ (t0 : Int)) = true := decide_eq_true (by omega)
    have dc2 : (t : Int) ≤ (t0 : Int) := by omega
    have G := hid0 g
    clear hx hy hu hv h0 h1 hc hf hp g
    go_enter Tryd.func4, Tryd.ntmps4
    go_upto_region 2 with (simp only [R7])
    generalize w.heap.size = b at *
    generalize World.alloc _ _ = W at *
    have c1 := fun V (gg : Gr W V) => (k.gr gg).at 1
    have c2 := fun V (gg : Gr W V) => (k.gr gg).at 2
    have c3 := fun V (gg : Gr W V) => (k.gr gg).at 3
    have c4 := fun V (gg : Gr W V) => (k.gr gg).at 4
    have c5 := fun V (gg : Gr W V) => (k.gr gg).at 5
    have c6 := fun V (gg : Gr W V) => (k.gr gg).at 6
    simp only [List.getElem?_cons_zero, List.getElem?_cons_succ] at c1 c2 c3 c4 c5 c6
    have C := hid0 (And.intro c1 (And.intro c2 (And.intro c3 (And.intro c4 (And.intro c5 c6)))))
    have p1 := c1 _ (Gr.refl _)
    have p2 := c2 _ (Gr.refl _)
    have p3 := c3 _ (Gr.refl _)
    have p4 := c4 _ (Gr.refl _)
    have p5 := c5 _ (Gr.refl _)
    have p6 := c6 _ (Gr.refl _)
    clear c1 c2 c3 c4 c5 c6 k R7
    go_upto_region 5 with (go_at_call 10; refine (S1.out _ _ _ (by first | exact .inl ⟨rfl, rfl⟩ | exact .inr ⟨rfl, rfl⟩)).mono ?_; rintro e w1 ⟨rfl, g1⟩)
    obtain ⟨c1, c2, c3, c4, c5, c6⟩ := C.out
    have q1 := c1 _ g1
    have q2 := c2 _ g1
    have q5 := c5 _ g1
    have q6 := c6 _ g1
    clear c1 c2 c3 c4 c5 c6 p1 p2 p3 p4 p5 p6
    go_upto_region 6 with (go_at_call 10; refine (S1.out _ _ _ (by first | exact .inl ⟨rfl, rfl⟩ | exact .inr ⟨rfl, rfl⟩)).mono ?_; rintro e w2 ⟨rfl, g2⟩)
    obtain ⟨c1, c2, c3, c4, c5, c6⟩ := C.out
    have r5 := c5 _ (g1.trans g2)
    have r6 := c6 _ (g1.trans g2)
    clear c1 c2 c3 c4 c5 c6 q1 q2 q5 q6
    have G3 := G.out.trans (g1.trans g2)
    have WW := hid0 (WK.out _ G3)
    clear WK S1 C g1 g2
    go_wp2_with (go_at_call 15; refine WW.out.mono ?_; rintro e w3 ⟨rfl, hb⟩)
    go_ret
    exact ⟨rfl, G3.below.trans (hb.mono G3.size)⟩
  obtain ⟨N, hN⟩ : ∃ N, N = t - t0 := ⟨_, rfl⟩
  have hN0 : 1 ≤ N := by omega
  have hN1 : N < 4294967296 := by omega
  obtain ⟨D1, D2⟩ := ds_fin (u - x) (v - y) (sub33 hx hu).1 (sub33 hy hv).1
  obtain ⟨v1, _, s1, s2, s3⟩ := speed_ok hf hp D1 D2 hN0 hN1
  obtain ⟨_, v3, z1, z2, z3⟩ := speed_ok (D := 0) hf hp (by decide) (by rw [valN_zero]; exact Nat.zero_le _) hN0 hN1
  rw [v3 rfl, sgI0] at z3
  have QW : ∀ W, (binOp .quo 29 (.float .f64 (dsF (u - x) (v - y))) (.float .f64 (floatOfInt .f64 (N : Int)))).run Tryd.prog W = .ok (.float .f64 (fo .quo (dsF (u - x) (v - y)) (floatOfInt .f64 (N : Int)))) W := fun W => by
    obtain ⟨z, hz, _⟩ := v_ok D1 D2 hN0 hN1
    rw [show fo .quo (dsF (u - x) (v - y)) (floatOfInt .f64 (N : Int)) = z from by unfold fo; rw [hz]; rfl]
    exact run_float_arith W .quo 29 .f64 _ _ _ hz
  have S1 : Hid (∀ W, Calls Tryd.prog 10 #[.float .f64 O, pt x y, pt u v, .int .u32 (t0 : Int), .int .u32 (t : Int)] W fun e w' => e = .returned (.float .f64 (spN O (dsF (u - x) (v - y)) N)) ∧ Gr W w') := fun W => by
    refine (speed_any (V.refl hO) hx hy hu hv h0 h1 W).mono ?_
    rintro e w' ⟨r, rfl, hr, hg⟩
    unfold spF at hr
    rw [if_neg hc, ← hN] at hr
    rw [hr.eq (fin_num s1)]
    exact ⟨rfl, hg⟩
  have S2 : Hid (∀ W, Calls Tryd.prog 10 #[.float .f64 O, pt x y, pt x y, .int .u32 (t0 : Int), .int .u32 (t : Int)] W fun e w' => e = .returned (.float .f64 (spN O 0 N)) ∧ Gr W w') := fun W => by
    refine (speed_any (V.refl hO) hx hy hx hy h0 h1 W).mono ?_
    rintro e w' ⟨r, rfl, hr, hg⟩
    unfold spF at hr
    rw [if_neg hc, ← hN, Int.sub_self, Int.sub_self, show dsF 0 0 = 0 from by kernel_rfl] at hr
    rw [hr.eq (fin_num z1)]
    exact ⟨rfl, hg⟩
  have DS : Hid (∀ W, Calls Tryd.prog 16 #[pt x y, pt u v] W fun e w' => e = .returned (.float .f64 (dsF (u - x) (v - y))) ∧ Gr W w') := fun W => rdistance_any hx hy hu hv W
  have dc : decide ((t : Int) ≤ (t0 : Int)) = false := decide_eq_false (by omega)
  have dc2 : ¬ (t : Int) ≤ (t0 : Int) := by omega
  have m1 : IntKind.u64.wrap (t : Int) = (t : Int) := by rw [IntKind.wrap_u64]; omega
  have m2 : IntKind.u64.wrap (t0 : Int) = (t0 : Int) := by rw [IntKind.wrap_u64]; omega
  have m3 : IntKind.u64.wrap ((t : Int) - (t0 : Int)) = (N : Int) := by rw [IntKind.wrap_u64]; omega
  generalize hsp : spN O (dsF (u - x) (v - y)) N = s at *
  generalize hst : spN O 0 N = z at *
  generalize hvv : fo .quo (dsF (u - x) (v - y)) (floatOfInt .f64 (N : Int)) = q at *
  generalize dsF (u - x) (v - y) = D at *
  have fq : fin q := fin_lo v1
  have q0 : 0 ≤ sgI q := by rw [sgI_lo (by omega)]; omega
  have G := hid0 g
  have FF := hid0 (And.intro hf (And.intro hp (And.intro s1 (And.intro s2 (And.intro s3 (And.intro z1 (And.intro z2 (And.intro z3 (And.intro fq q0)))))))))
  clear hx hy hu hv h0 h1 hc g hN hN0 hN1 D1 D2 v1 v3 hsp hst hvv hf hp s1 s2 s3 z1 z2 z3 fq q0
  go_enter Tryd.func4, Tryd.ntmps4
  go_upto_region 2 with (simp only [R7])
  generalize w.heap.size = b at *
  generalize World.alloc _ _ = W at *
  have c1 := fun V (gg : Gr W V) => (k.gr gg).at 1
  have c2 := fun V (gg : Gr W V) => (k.gr gg).at 2
  have c3 := fun V (gg : Gr W V) => (k.gr gg).at 3
  have c4 := fun V (gg : Gr W V) => (k.gr gg).at 4
  have c5 := fun V (gg : Gr W V) => (k.gr gg).at 5
  have c6 := fun V (gg : Gr W V) => (k.gr gg).at 6
  simp only [List.getElem?_cons_zero, List.getElem?_cons_succ] at c1 c2 c3 c4 c5 c6
  have C := hid0 (And.intro c1 (And.intro c2 (And.intro c3 (And.intro c4 (And.intro c5 c6)))))
  have p1 := c1 _ (Gr.refl _)
  have p2 := c2 _ (Gr.refl _)
  have p3 := c3 _ (Gr.refl _)
  have p4 := c4 _ (Gr.refl _)
  have p5 := c5 _ (Gr.refl _)
  have p6 := c6 _ (Gr.refl _)
  clear c1 c2 c3 c4 c5 c6 k R7
  go_upto_region 5 with (go_at_call 10; refine (S1.out _).mono ?_; rintro e w1 ⟨rfl, g1⟩)
  obtain ⟨c1, c2, c3, c4, c5, c6⟩ := C.out
  have q1 := c1 _ g1
  have q2 := c2 _ g1
  have q5 := c5 _ g1
  have q6 := c6 _ g1
  clear c1 c2 c3 c4 c5 c6 p1 p2 p3 p4 p5 p6
  go_upto_region 6 with (go_at_call 10; refine (S2.out _).mono ?_; rintro e w2 ⟨rfl, g2⟩)
  obtain ⟨c1, c2, c3, c4, c5, c6⟩ := C.out
  have r5 := c5 _ (g1.trans g2)
  have r6 := c6 _ (g1.trans g2)
  clear c1 c2 c3 c4 c5 c6 q1 q2 q5 q6
  go_upto_region 8 with fail
  have G3 := G.out.trans (g1.trans g2)
  obtain ⟨c1, c2, c3, c4, c5, c6⟩ := C.out
  have y1 := fun m os => c1 _ ((g1.trans g2).trans ⟨m, os, rfl⟩)
  have y2 := fun m os => c2 _ ((g1.trans g2).trans ⟨m, os, rfl⟩)
  have y3 := fun m os => c3 _ ((g1.trans g2).trans ⟨m, os, rfl⟩)
  have y4 := fun m os => c4 _ ((g1.trans g2).trans ⟨m, os, rfl⟩)
  have y5 := fun m os => c5 _ ((g1.trans g2).trans ⟨m, os, rfl⟩)
  have y6 := fun m os => c6 _ ((g1.trans g2).trans ⟨m, os, rfl⟩)
  have DG : Hid (∀ m os, Calls Tryd.prog 16 #[pt x y, pt u v] (grow (w2.drewN m) os) fun e w' => e = .returned (.float .f64 D) ∧ ∃ p : GrownBy, w' = grow (w2.drewN p.n) p.os) := fun m os => calmG (fun W _ => DS.out W) m os
  clear c1 c2 c3 c4 c5 c6 C S1 S2 DS r5 r6 g1 g2 G
  refine wp_region_quiet_grown (by kernel_rfl) (by kernel_rfl) ?_
  repeat (go_big_quiet_step (exact DG.out _ _))
  refine wpQuiet_nil ?_
  intro _ hw'
  obtain ⟨⟨nq, osq⟩, hw''⟩ := hw'
  subst hw''
  have g4 : Gr w2 (grow (w2.drewN nq) osq) := ⟨nq, osq, rfl⟩
  have G4 := G3.trans g4
  clear g4 y1 y2 y3 y4 y5 y6 DG G3
  generalize grow _ _ = W4 at *
  have WW := hid0 (WK.out _ G4)
  clear WK QW
  obtain ⟨hf, hp, s1, s2, s3, z1, z2, z3, fq, q0⟩ := FF.out
  obtain ⟨mx, fm, em, MX⟩ := max_run hf fq
  have b1 := ord_ge s1 fin0 (by rw [sgI0]; exact s2)
  have b2 := ord_le s1 fm (by rw [em]; exact s3)
  have b3 := ord_ge z1 fin0 (by rw [sgI0]; exact z2)
  have b4 := ord_le z1 hf (by omega)
  have hB : Hid (((FloatKind.f64.format.order s 0 == some Ordering.gt || FloatKind.f64.format.order s 0 == some Ordering.eq) && (FloatKind.f64.format.order s mx == some Ordering.lt || FloatKind.f64.format.order s mx == some Ordering.eq) && (FloatKind.f64.format.order z 0 == some Ordering.gt || FloatKind.f64.format.order z 0 == some Ordering.eq) && (FloatKind.f64.format.order z O == some Ordering.lt || FloatKind.f64.format.order z O == some Ordering.eq)) = true) := by
    show _ = true
    simp only [Bool.and_eq_true, Bool.or_eq_true, beq_iff_eq]
    exact ⟨⟨⟨b1, b2⟩, b3⟩, b4⟩
  clear hf hp s1 s2 s3 z1 z2 z3 fq q0 fm em FF
  go_wp2_with (go_at_call 15; refine WW.out.mono ?_; rintro e w3 ⟨rfl, hb⟩)
  all_goals first
    | (go_ret; exact ⟨congrArg (fun z => Ending.returned (.bool z)) hB.out, G4.below.trans (hb.mono G4.size)⟩)
    | trace_state
end Go.Proofs.YtgdmbcfjjdngdaaDoor
