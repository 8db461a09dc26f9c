/- The law TurnWhole, walked. -/
import Derived.Test.YtmjfphidcnjklaaWf
set_option linter.unusedSimpArgs false
namespace Go.Proofs.Ytmjfphidcnjklaa
open Go.RowKit Go.Sort Ieee

abbrev tenV (m0 m1 m2 m3 n0 n1 n2 n3 z0 z1 : Int) : Value := .agg #[.int .i32 m0, .int .i32 m1, .int .i32 m2, .int .i32 m3, .int .i32 n0, .int .i32 n1, .int .i32 n2, .int .i32 n3, .int .i32 z0, .int .i32 z1]
set_option maxRecDepth 20000 in
set_option maxHeartbeats 6400000 in
theorem whole_walk (m0 m1 m2 m3 n0 n1 n2 n3 z0 z1 : Int) (w : World) :
    Calls Try.prog 6 #[tenV m0 m1 m2 m3 n0 n1 n2 n3 z0 z1] w fun e w' => e = .returned (.bool true) ∧ Gr w w' := by
  have kX := Bl.new w 77 #[.int .i32 m0, .int .i32 m1, .int .i32 m2, .int .i32 m3, .int .i32 n0, .int .i32 n1, .int .i32 n2, .int .i32 n3, .int .i32 z0, .int .i32 z1]
  have g : Gr w (w.alloc (.cells #[.int .i32 m0, .int .i32 m1, .int .i32 m2, .int .i32 m3, .int .i32 n0, .int .i32 n1, .int .i32 n2, .int .i32 n3, .int .i32 z0, .int .i32 z1] 77)) := (Gr.refl w).alloc _
  have HM := sw_sm m0 m1 m2 m3
  have HN := sw_sm n0 n1 n2 n3
  have H0 := sm_fl z0
  have H1 := sm_fl z1
  have B0 := rem_bd z0
  have B1 := rem_bd z1
  have WM := fun w => hid' (whole_any m0 m1 m2 m3 w)
  have WN := fun w => hid' (whole_any n0 n1 n2 n3 w)
  have Z0 := fun w => hid' (small_gr z0 w)
  have Z1 := fun w => hid' (small_gr z1 w)
  generalize smF m0 = a at *
  generalize smF m1 = b at *
  generalize smF m2 = c at *
  generalize smF m3 = d at *
  generalize smF n0 = a2 at *
  generalize smF n1 = b2 at *
  generalize smF n2 = c2 at *
  generalize smF n3 = d2 at *
  generalize smF z0 = u at *
  generalize smF z1 = v at *
  generalize m0.tmod 65537 = p at *
  generalize m1.tmod 65537 = q at *
  generalize m2.tmod 65537 = r at *
  generalize m3.tmod 65537 = s at *
  generalize n0.tmod 65537 = p2 at *
  generalize n1.tmod 65537 = q2 at *
  generalize n2.tmod 65537 = r2 at *
  generalize n3.tmod 65537 = s2 at *
  generalize z0.tmod 65537 = x at *
  generalize z1.tmod 65537 = y at *
  replace HM := hid' HM
  replace HN := hid' HN
  replace H0 := hid' H0
  replace H1 := hid' H1
  replace B0 := hid' B0
  replace B1 := hid' B1
  have sc := run_store_c
  go_enter Try.func6, Try.ntmps6
  go_wp2_with fail
  refine (WM _).out.mono ?_
  rintro e w1 ⟨rfl, g1⟩
  replace kX := (kX.gr g1).alloc (.cells #[.complex .f64 a b, .complex .f64 c d] 28)
  have kM := Bl.new w1 28 #[.complex .f64 a b, .complex .f64 c d]
  replace g := (g.trans g1).alloc (.cells #[.complex .f64 a b, .complex .f64 c d] 28)
  clear g1 WM
  dsimp only
  have c4 := kX.cell (i := 4) rfl
  have c5 := kX.cell (i := 5) rfl
  have c6 := kX.cell (i := 6) rfl
  have c7 := kX.cell (i := 7) rfl
  go_wp2_with fail
  refine (WN _).out.mono ?_
  rintro e w2 ⟨rfl, g2⟩
  replace kX := (kX.gr g2).alloc (.cells #[.complex .f64 a2 b2, .complex .f64 c2 d2] 28)
  replace kM := (kM.gr g2).alloc (.cells #[.complex .f64 a2 b2, .complex .f64 c2 d2] 28)
  have kN := Bl.new w2 28 #[.complex .f64 a2 b2, .complex .f64 c2 d2]
  replace g := hid' ((g.trans g2).alloc (.cells #[.complex .f64 a2 b2, .complex .f64 c2 d2] 28))
  clear g2 WN c4 c5 c6 c7
  dsimp only
  go_wp2_with fail
  generalize w2.alloc (.cells #[.complex .f64 a2 b2, .complex .f64 c2 d2] 28) = W at *
  generalize w1.heap.size = X1 at *
  generalize w2.heap.size = X2 at *
  have c8 : ∀ w', Gr W w' → w'.cell? ⟨w.heap.size, 8, none⟩ = some (.int .i32 z0) := fun _ g => (kX.gr g).cell rfl
  have c9 : ∀ w', Gr W w' → w'.cell? ⟨w.heap.size, 9, none⟩ = some (.int .i32 z1) := fun _ g => (kX.gr g).cell rfl
  go_region_held3 (Gr W)
    (first
      | exact (Gr.refl _).drew
      | exact Gr.trans (by assumption) (by assumption)
      | assumption)
    (first
      | (go_at_call_of 36 z1; refine (Z1 _).out.mono ?_; rintro e w4 ⟨rfl, g4⟩)
      | (go_at_call_of 36 z0; refine (Z0 _).out.mono ?_; rintro e w3 ⟨rfl, g3⟩))
  rename_i hH
  replace kM := kM.gr hH
  replace kN := kN.gr hH
  replace g := hid' (g.out.trans hH)
  clear hH g3 g4 c8 c9 kX Z0 Z1
  go_wp2_with fail
  refine (unit_any _).mono ?_
  rintro e w5 ⟨rfl, g5⟩
  replace kM := (kM.gr g5).alloc (.cells #[.complex .f64 4607182418800017408 0, .complex .f64 0 0] 28)
  replace kN := (kN.gr g5).alloc (.cells #[.complex .f64 4607182418800017408 0, .complex .f64 0 0] 28)
  have kU := Bl.new w5 28 #[.complex .f64 4607182418800017408 0, .complex .f64 0 0]
  replace g := hid' ((g.out.trans g5).alloc (.cells #[.complex .f64 4607182418800017408 0, .complex .f64 0 0] 28))
  clear g5
  dsimp only
  go_wp2_with fail
  generalize w5.alloc (.cells #[.complex .f64 4607182418800017408 0, .complex .f64 0 0] 28) = W2 at *
  generalize w5.heap.size = X5 at *
  obtain ⟨m0', m1'⟩ := kM.two_gr
  obtain ⟨n0', n1'⟩ := kN.two_gr
  have T1 := fun w => hid' (then_whole HM.out HN.out (by decide) (by decide) w)
  have A2 := fun w => hid' (apply_whole HM.out H0.out H1.out B0.out B1.out (by decide) w)
  have A1 : Hid (∀ x' y' z' t', Sw (2 * (65536 * 65536)) (2 * (65536 * 65536) + 65536) x' y' z' t' (p2 * p - q2 * q) (p2 * q + q2 * p) (p2 * r - q2 * s + r2) (p2 * s + q2 * r + s2) → ∀ w, Calls Try.prog 13 #[simV x' y' z' t', .complex .f64 u v] w fun e w' => ∃ k l, e = .returned (.complex .f64 k l) ∧ (Fl k ((p2 * p - q2 * q) * x - (p2 * q + q2 * p) * y + (p2 * r - q2 * s + r2)) ∧ Fl l ((p2 * p - q2 * q) * y + (p2 * q + q2 * p) * x + (p2 * s + q2 * r + s2))) ∧ Gr w w') := fun x' y' z' t' h w => apply_whole h H0.out H1.out B0.out B1.out (by decide) w
  have A3 : Hid (∀ k l, (Fl k (p * x - q * y + r) ∧ Fl l (p * y + q * x + s)) → ∀ w, Calls Try.prog 13 #[simV a2 b2 c2 d2, .complex .f64 k l] w fun e w' => ∃ i j, e = .returned (.complex .f64 i j) ∧ (Fl i (p2 * (p * x - q * y + r) - q2 * (p * y + q * x + s) + r2) ∧ Fl j (p2 * (p * y + q * x + s) + q2 * (p * x - q * y + r) + s2)) ∧ Gr w w') := fun k l h w => by
    have b1 := mul_bd HM.out.la B0.out
    have b2 := mul_bd HM.out.lb B1.out
    have b3 := mul_bd HM.out.la B1.out
    have b4 := mul_bd HM.out.lb B0.out
    have b5 := HM.out.lc
    have b6 := HM.out.ld
    exact apply_whole (C := 8589934592 + 65536) HN.out h.1 h.2 (by omega) (by omega) (by decide) w
  have I1 : (p2 * p - q2 * q) * x - (p2 * q + q2 * p) * y + (p2 * r - q2 * s + r2) = p2 * (p * x - q * y + r) - q2 * (p * y + q * x + s) + r2 := by grind
  have I2 : (p2 * p - q2 * q) * y + (p2 * q + q2 * p) * x + (p2 * s + q2 * r + s2) = p2 * (p * y + q * x + s) + q2 * (p * x - q * y + r) + s2 := by grind
  rw [I1, I2] at A1
  clear I1 I2
  go_region_held3 (Gr W2)
    (first
      | exact (Gr.refl _).drew
      | exact Gr.trans (by assumption) (by assumption)
      | assumption)
    (first
      | (go_at_call 17; refine (T1 _).out.mono ?_; rintro e w6 ⟨x1, x2, x3, x4, rfl, hT, g6⟩; replace hT := hid' hT)
      | (go_at_call_of 13 x1; refine (A1.out _ _ _ _ hT.out _).mono ?_; rintro e w7 ⟨k1, l1, rfl, hk, g7⟩; replace hk := hid' hk)
      | (go_at_call_of 13 a; refine (A2 _).out.mono ?_; rintro e w8 ⟨k2, l2, rfl, hl, g8⟩; replace hl := hid' hl)
      | (go_at_call_of 13 a2; refine (A3.out _ _ hl.out _).mono ?_; rintro e w9 ⟨k3, l3, rfl, hm, g9⟩; have o1 := fl_ord hk.out.1 hm.1; have o2 := fl_ord hk.out.2 hm.2))
  rename_i hH
  replace kM := kM.gr hH
  replace kU := kU.gr hH
  replace g := hid' (g.out.trans hH)
  clear hH g6 g7 g8 g9 hT hk hl hm T1 A1 A2 A3 m0' m1' n0' n1' kN
  go_wp2_with fail
  obtain ⟨m0', m1'⟩ := kM.two_gr
  obtain ⟨u0', u1'⟩ := kU.two_gr
  have e1 : (1 : Int) * p - 0 * q = p := by omega
  have e2 : (1 : Int) * q + 0 * p = q := by omega
  have e3 : (1 : Int) * r - 0 * s + 0 = r := by omega
  have e4 : (1 : Int) * s + 0 * r + 0 = s := by omega
  have f1 : p * (1 : Int) - q * 0 = p := by omega
  have f2 : p * (0 : Int) + q * 1 = q := by omega
  have f3 : p * (0 : Int) - q * 0 + r = r := by omega
  have f4 : p * (0 : Int) + q * 0 + s = s := by omega
  have i1 : (1 : Int) * x - 0 * y + 0 = x := by omega
  have i2 : (1 : Int) * y + 0 * x + 0 = y := by omega
  have T1 := fun w => hid' (then_whole HM.out sw_unit (by decide) (by decide) w)
  have T2 := fun w => hid' (then_whole sw_unit HM.out (by decide) (by decide) w)
  have A1 := fun w => hid' (apply_whole sw_unit H0.out H1.out B0.out B1.out (by decide) w)
  rw [e1, e2, e3, e4] at T1
  rw [f1, f2, f3, f4] at T2
  rw [i1, i2] at A1
  have SM : Hid (∀ A B x1 x2 x3 x4, Sw A B x1 x2 x3 x4 p q r s → ∀ w, Calls Try.prog 22 #[simV x1 x2 x3 x4, simV a b c d] w fun e w' => e = .returned (.bool true) ∧ Gr w w') := fun A B x1 x2 x3 x4 h w => same_whole h HM.out w
  clear e1 e2 e3 e4 f1 f2 f3 f4 i1 i2 o1 o2
  generalize w9.heap.size = X9 at *
  go_region_held3 (Gr w9)
    (first
      | exact (Gr.refl _).drew
      | exact Gr.trans (by assumption) (by assumption)
      | assumption)
    (first
      | (go_at_call 26; refine (lives_any _).mono ?_; rintro e w15 ⟨rfl, g15⟩)
      | (go_at_call 13; refine (A1 _).out.mono ?_; rintro e w14 ⟨k5, l5, rfl, hz, g14⟩; have o1 := fl_ord hz.1 H0.out; have o2 := fl_ord hz.2 H1.out)
      | (go_at_call_of 22 y1; refine (SM.out _ _ _ _ _ _ hT2.out _).mono ?_; rintro e w13 ⟨rfl, g13⟩)
      | (go_at_call_of 22 x5; refine (SM.out _ _ _ _ _ _ hT1.out _).mono ?_; rintro e w11 ⟨rfl, g11⟩)
      | (go_at_call 17; have _k := hT1; refine (T2 _).out.mono ?_; rintro e w12 ⟨y1, y2, y3, y4, rfl, hT2, g12⟩; replace hT2 := hid' hT2)
      | (go_at_call 17; refine (T1 _).out.mono ?_; rintro e w10 ⟨x5, x6, x7, x8, rfl, hT1, g10⟩; replace hT1 := hid' hT1))
  rename_i hH
  go_wp2
  go_ret
  exact ⟨rfl, g.out.trans hH⟩
end Go.Proofs.Ytmjfphidcnjklaa
