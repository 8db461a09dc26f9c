/- The law TurnMaps, walked. -/
import Derived.Test.YtmjfphidcnjklaaG3
set_option linter.unusedSimpArgs false
namespace Go.Proofs.Ytmjfphidcnjklaa
open Go.RowKit Go.Sort Ieee

abbrev fourV (a b c d : Nat) : Value := .agg #[.int .u64 (a : Int), .int .u64 (b : Int), .int .u64 (c : Int), .int .u64 (d : Int)]
theorem Bl.two_gr {w : World} {b t : Nat} {x y : Value} (h : Bl w b t #[x, y]) : (∀ w', Gr w w' → w'.cell? ⟨b, 0, none⟩ = some x) ∧ (∀ w', Gr w w' → w'.cell? ⟨b, 1, none⟩ = some y) :=
  ⟨fun _ g => (h.gr g).cell rfl, fun _ g => (h.gr g).cell rfl⟩
theorem Bl.four_gr {w : World} {b t : Nat} {x y z v : Value} (h : Bl w b t #[x, y, z, v]) : (∀ w', Gr w w' → w'.cell? ⟨b, 0, none⟩ = some x) ∧ (∀ w', Gr w w' → w'.cell? ⟨b, 1, none⟩ = some y) ∧ (∀ w', Gr w w' → w'.cell? ⟨b, 2, none⟩ = some z) ∧ (∀ w', Gr w w' → w'.cell? ⟨b, 3, none⟩ = some v) :=
  ⟨fun _ g => (h.gr g).cell rfl, fun _ g => (h.gr g).cell rfl, fun _ g => (h.gr g).cell rfl, fun _ g => (h.gr g).cell rfl⟩

/-- What Back tells, in either case. -/
def bk1 (A B C D : Nat) : Nat := if backOK A B C D = true then bkA A B else 0
def bk2 (A B C D : Nat) : Nat := if backOK A B C D = true then bkB A B else 0
def bk3 (A B C D : Nat) : Nat := if backOK A B C D = true then bkC A B C D else 0
def bk4 (A B C D : Nat) : Nat := if backOK A B C D = true then bkD A B C D else 0
def bkE (A B C D : Nat) : Int := if backOK A B C D = true then 0 else 80
theorem back_any {a b c d A B C D : Nat} (ha : V a A) (hb : V b B) (hc : V c C) (hd : V d D) (w : World) :
    Calls Try.prog 19 #[simV a b c d] w fun e w' => ∃ p q r s, e = .returned (.tuple #[simV p q r s, .int .i64 (bkE A B C D)]) ∧ V p (bk1 A B C D) ∧ V q (bk2 A B C D) ∧ V r (bk3 A B C D) ∧ V s (bk4 A B C D) ∧ Gr w w' := by
  unfold bk1 bk2 bk3 bk4 bkE
  cases h : backOK A B C D with
  | true => simp only [if_true]; exact back_yes ha hb hc hd h w
  | false => simp only [Bool.false_eq_true, if_false]; exact (back_not ha hb hc hd h w).mono fun _ _ ⟨h1, h2⟩ => ⟨0, 0, 0, 0, h1, v0, v0, v0, v0, h2⟩
theorem rback_any {a b c d A B C D : Nat} (ha : V a A) (hb : V b B) (hc : V c C) (hd : V d D) (w : World) :
    Calls Try.prog 20 #[mapV a b c d] w fun e w' => ∃ p q r s, e = .returned (.tuple #[mapV p q r s, .int .i64 (bkE A B C D)]) ∧ V p (bk1 A B C D) ∧ V q (bk2 A B C D) ∧ V r (bk3 A B C D) ∧ V s (bk4 A B C D) ∧ Gr w w' := by
  unfold bk1 bk2 bk3 bk4 bkE
  cases h : backOK A B C D with
  | true => simp only [if_true]; exact rback_yes ha hb hc hd h w
  | false => simp only [Bool.false_eq_true, if_false]; exact (rback_not ha hb hc hd h w).mono fun _ _ ⟨h1, h2⟩ => ⟨0, 0, 0, 0, h1, v0, v0, v0, v0, h2⟩
theorem eq_one (w : World) : (Op.equalIn 9999 26 (.complex .f64 4607182418800017408 0) (.complex .f64 4607182418800017408 0)).run Try.prog w = .ok true w := by kernel_rfl
theorem eq_nil (w : World) : (Op.equalIn 9999 26 (.complex .f64 0 0) (.complex .f64 0 0)).run Try.prog w = .ok true w := by kernel_rfl
theorem ord_same {a : Nat} (h : fin a) : FloatKind.f64.format.order a a = some .eq := self_num h.1 (fin_num h)

set_option maxRecDepth 20000 in
set_option maxHeartbeats 6400000 in
theorem maps_walk (a b c d a2 b2 c2 d2 u v : Nat) (h1 : lt4 a b c d) (h2 : lt4 a2 b2 c2 d2) (hu : u < 18446744073709551616) (hv : v < 18446744073709551616) (w : World) :
    Calls Try.prog 3 #[fourV a b c d, fourV a2 b2 c2 d2, .agg #[.int .u64 (u : Int), .int .u64 (v : Int)]] w fun e w' => e = .returned (.bool true) ∧ Gr w w' := by
  obtain ⟨kX, kY, kZ, g⟩ := three_new w 24 24 25 #[.int .u64 (a : Int), .int .u64 (b : Int), .int .u64 (c : Int), .int .u64 (d : Int)] #[.int .u64 (a2 : Int), .int .u64 (b2 : Int), .int .u64 (c2 : Int), .int .u64 (d2 : Int)] #[.int .u64 (u : Int), .int .u64 (v : Int)]
  have va := V.refl h1.1
  have vb := V.refl h1.2.1
  have vc := V.refl h1.2.2.1
  have vd := V.refl h1.2.2.2
  have va2 := V.refl h2.1
  have vb2 := V.refl h2.2.1
  have vc2 := V.refl h2.2.2.1
  have vd2 := V.refl h2.2.2.2
  have vu := V.refl hu
  have vv := V.refl hv
  have H1 := hid' h1
  have H2 := hid' h2
  have Hu := hid' hu
  have Hv := hid' hv
  have sc := run_store_c
  have sf := run_store_f
  clear h1 h2 hu hv
  go_enter Try.func3, Try.ntmps3
  go_wp2_with fail
  refine (similar_any a b c d _).mono ?_
  rintro e w1 ⟨rfl, g1⟩
  replace kY := (kY.gr g1).alloc (.cells #[.complex .f64 a b, .complex .f64 c d] 28)
  replace kZ := (kZ.gr g1).alloc (.cells #[.complex .f64 a b, .complex .f64 c d] 28)
  have kM := Bl.new w1 28 #[.complex .f64 a b, .complex .f64 c d]
  replace g := (g.trans g1).alloc (.cells #[.complex .f64 a b, .complex .f64 c d] 28)
  clear kX g1
  dsimp only
  obtain ⟨⟨y0, y1, y2, y3⟩, _⟩ := kY.four
  go_wp2_with fail
  refine (similar_any a2 b2 c2 d2 _).mono ?_
  rintro e w2 ⟨rfl, g2⟩
  replace kZ := (kZ.gr g2).alloc (.cells #[.complex .f64 a2 b2, .complex .f64 c2 d2] 28)
  replace kM := (kM.gr g2).alloc (.cells #[.complex .f64 a2 b2, .complex .f64 c2 d2] 28)
  have kN := Bl.new w2 28 #[.complex .f64 a2 b2, .complex .f64 c2 d2]
  replace g := (g.trans g2).alloc (.cells #[.complex .f64 a2 b2, .complex .f64 c2 d2] 28)
  clear kY g2 y0 y1 y2 y3
  dsimp only
  obtain ⟨z0, z1, _, _⟩ := kZ.two
  obtain ⟨m0, m1, _, _⟩ := kM.two
  generalize w1.heap.size = X1 at *
  go_wp2_with (go_at_call 10; refine (of_any u v _).mono ?_; rintro e w' ⟨rfl, rfl⟩)
  refine (numMap_any a b c d _).mono ?_
  rintro e w3 ⟨rfl, g3⟩
  replace kM := (kM.gr g3).alloc (.cells #[.float .f64 a, .float .f64 b, .float .f64 c, .float .f64 d] 35)
  replace kN := (kN.gr g3).alloc (.cells #[.float .f64 a, .float .f64 b, .float .f64 c, .float .f64 d] 35)
  have kA := Bl.new w3 35 #[.float .f64 a, .float .f64 b, .float .f64 c, .float .f64 d]
  replace g := (g.trans g3).alloc (.cells #[.float .f64 a, .float .f64 b, .float .f64 c, .float .f64 d] 35)
  clear kZ g3 z0 z1 m0 m1
  dsimp only
  obtain ⟨n0, n1, _, _⟩ := kN.two
  generalize w2.heap.size = X2 at *
  go_wp2_with fail
  refine (numMap_any a2 b2 c2 d2 _).mono ?_
  rintro e w4 ⟨rfl, g4⟩
  replace kM := (kM.gr g4).alloc (.cells #[.float .f64 a2, .float .f64 b2, .float .f64 c2, .float .f64 d2] 35)
  replace kN := (kN.gr g4).alloc (.cells #[.float .f64 a2, .float .f64 b2, .float .f64 c2, .float .f64 d2] 35)
  replace kA := (kA.gr g4).alloc (.cells #[.float .f64 a2, .float .f64 b2, .float .f64 c2, .float .f64 d2] 35)
  have kB := Bl.new w4 35 #[.float .f64 a2, .float .f64 b2, .float .f64 c2, .float .f64 d2]
  replace g := hid' ((g.trans g4).alloc (.cells #[.float .f64 a2, .float .f64 b2, .float .f64 c2, .float .f64 d2] 35))
  clear n0 n1 g4
  dsimp only
  go_wp2_with fail
  generalize w4.alloc (.cells #[.float .f64 a2, .float .f64 b2, .float .f64 c2, .float .f64 d2] 35) = W at *
  generalize w3.heap.size = X3 at *
  generalize w4.heap.size = X4 at *
  obtain ⟨m0, m1⟩ := kM.two_gr
  obtain ⟨n0, n1⟩ := kN.two_gr
  obtain ⟨p0, p1, p2, p3⟩ := kA.four_gr
  obtain ⟨q0, q1, q2, q3⟩ := kB.four_gr
  go_region_held3 (Gr W)
    (first
      | exact (Gr.refl _).drew
      | exact Gr.trans (by assumption) (by assumption))
    (first
      | (go_at_call 13; refine (apply_any va vb vc vd vu vv _).mono ?_; rintro e w5 ⟨r1, s1, rfl, t1, t2, g5⟩)
      | (go_at_call 15; refine (num_any u v _).mono ?_; rintro e w6 ⟨rfl, g6⟩)
      | (go_at_call 14; refine (rapply_any va vb vc vd vu vv _).mono ?_; rintro e w7 ⟨r2, s2, rfl, t3, t4, g7⟩)
      | (go_at_call 12; refine (law_alike t1 t2 t3 t4 _).mono ?_; rintro e w8 ⟨rfl, g8⟩)
      | (go_at_call 17; refine (then_any va vb vc vd va2 vb2 vc2 vd2 _).mono ?_; rintro e w9 ⟨r3, r4, r5, r6, rfl, t5, t6, t7, t8, g9⟩)
      | (go_at_call 18; refine (rthen_any va vb vc vd va2 vb2 vc2 vd2 _).mono ?_; rintro e w10 ⟨r7, r8, r9, r10, rfl, t9, t10, t11, t12, g10⟩)
      | (go_at_call 16; refine (law_alikeMap t5 t6 t7 t8 t9 t10 t11 t12 _).mono ?_; rintro e w11 ⟨rfl, g11⟩))
  rename_i hH
  replace kM := kM.gr hH
  replace kN := kN.gr hH
  replace kA := kA.gr hH
  replace kB := kB.gr hH
  replace g := hid' (g.out.trans hH)
  clear hH g5 g6 g7 g8 g9 g10 g11 t1 t2 t3 t4 t5 t6 t7 t8 t9 t10 t11 t12 m0 m1 n0 n1 p0 p1 p2 p3 q0 q1 q2 q3 vu vv
  have BK := fun w => hid' (back_any va vb vc vd w)
  have RBK := fun w => hid' (rback_any va vb vc vd w)
  have LM : Hid (∀ p q r s p2 q2 r2 s2, V p (bk1 a b c d) → V q (bk2 a b c d) → V r (bk3 a b c d) → V s (bk4 a b c d) → V p2 (bk1 a b c d) → V q2 (bk2 a b c d) → V r2 (bk3 a b c d) → V s2 (bk4 a b c d) → ∀ w, Calls Try.prog 16 #[simV p q r s, mapV p2 q2 r2 s2] w fun e w' => e = .returned (.bool true) ∧ Gr w w') := fun _ _ _ _ _ _ _ _ h1 h2 h3 h4 h5 h6 h7 h8 w => law_alikeMap h1 h2 h3 h4 h5 h6 h7 h8 w
  clear va vb vc vd va2 vb2 vc2 vd2
  generalize bkE a b c d = E at *
  generalize bk1 a b c d = Z1 at *
  generalize bk2 a b c d = Z2 at *
  generalize bk3 a b c d = Z3 at *
  generalize bk4 a b c d = Z4 at *
  obtain ⟨m0, m1, _, _⟩ := kM.two
  go_wp2_with fail
  refine (BK _).out.mono ?_
  rintro e w12 ⟨r1, r2, r3, r4, rfl, t1, t2, t3, t4, g12⟩
  replace kM := (kM.gr g12).alloc (.cells #[.complex .f64 r1 r2, .complex .f64 r3 r4] 28)
  replace kN := (kN.gr g12).alloc (.cells #[.complex .f64 r1 r2, .complex .f64 r3 r4] 28)
  replace kA := (kA.gr g12).alloc (.cells #[.complex .f64 r1 r2, .complex .f64 r3 r4] 28)
  replace kB := (kB.gr g12).alloc (.cells #[.complex .f64 r1 r2, .complex .f64 r3 r4] 28)
  have kK := Bl.new w12 28 #[.complex .f64 r1 r2, .complex .f64 r3 r4]
  replace g := hid' ((g.out.trans g12).alloc (.cells #[.complex .f64 r1 r2, .complex .f64 r3 r4] 28))
  clear m0 m1 g12 BK
  dsimp only
  obtain ⟨⟨p0, p1, p2, p3⟩, _⟩ := kA.four
  go_wp2_with fail
  refine (RBK _).out.mono ?_
  rintro e w13 ⟨r5, r6, r7, r8, rfl, t5, t6, t7, t8, g13⟩
  have LM2 := fun w => hid' (LM.out _ _ _ _ _ _ _ _ t1 t2 t3 t4 t5 t6 t7 t8 w)
  replace kM := (kM.gr g13).alloc (.cells #[.float .f64 r5, .float .f64 r6, .float .f64 r7, .float .f64 r8] 35)
  replace kN := (kN.gr g13).alloc (.cells #[.float .f64 r5, .float .f64 r6, .float .f64 r7, .float .f64 r8] 35)
  replace kA := (kA.gr g13).alloc (.cells #[.float .f64 r5, .float .f64 r6, .float .f64 r7, .float .f64 r8] 35)
  replace kB := (kB.gr g13).alloc (.cells #[.float .f64 r5, .float .f64 r6, .float .f64 r7, .float .f64 r8] 35)
  replace kK := (kK.gr g13).alloc (.cells #[.float .f64 r5, .float .f64 r6, .float .f64 r7, .float .f64 r8] 35)
  have kL := Bl.new w13 35 #[.float .f64 r5, .float .f64 r6, .float .f64 r7, .float .f64 r8]
  replace g := hid' ((g.out.trans g13).alloc (.cells #[.float .f64 r5, .float .f64 r6, .float .f64 r7, .float .f64 r8] 35))
  clear p0 p1 p2 p3 g13 RBK LM t1 t2 t3 t4 t5 t6 t7 t8
  dsimp only
  obtain ⟨p0, p1, _, _⟩ := kK.two
  obtain ⟨⟨q0, q1, q2, q3⟩, _⟩ := kL.four
  go_wp2_with fail
  refine (LM2 _).out.mono ?_
  rintro e w14 ⟨rfl, g14⟩
  replace kM := kM.gr g14
  replace kN := kN.gr g14
  replace kA := kA.gr g14
  replace kB := kB.gr g14
  replace g := hid' (g.out.trans g14)
  clear p0 p1 q0 q1 q2 q3 kK kL LM2 g14
  dsimp only
  go_wp2_with fail
  refine (unit_any _).mono ?_
  rintro e w15 ⟨rfl, g15⟩
  replace kM := (kM.gr g15).alloc (.cells #[.complex .f64 4607182418800017408 0, .complex .f64 0 0] 28)
  replace kN := (kN.gr g15).alloc (.cells #[.complex .f64 4607182418800017408 0, .complex .f64 0 0] 28)
  replace kA := (kA.gr g15).alloc (.cells #[.complex .f64 4607182418800017408 0, .complex .f64 0 0] 28)
  replace kB := (kB.gr g15).alloc (.cells #[.complex .f64 4607182418800017408 0, .complex .f64 0 0] 28)
  have kU := Bl.new w15 28 #[.complex .f64 4607182418800017408 0, .complex .f64 0 0]
  replace g := hid' ((g.out.trans g15).alloc (.cells #[.complex .f64 4607182418800017408 0, .complex .f64 0 0] 28))
  clear g15
  dsimp only
  go_wp2_with fail
  generalize w15.alloc (.cells #[.complex .f64 4607182418800017408 0, .complex .f64 0 0] 28) = W2 at *
  generalize w15.heap.size = X6 at *
  have SA := fun w => hid' (same_any H1.out H2.out w)
  have SB := fun w => hid' (ralikeMap_any H1.out H2.out w)
  have SC : ∀ w, Hid (Calls Try.prog 22 #[simV a b c d, simV a b c d] w fun e w' => e = .returned (.bool true) ∧ Gr w w') := fun w => by
    have := same_any H1.out H1.out w
    rw [alB_same H1.out.1, alB_same H1.out.2.1, alB_same H1.out.2.2.1, alB_same H1.out.2.2.2] at this
    exact this
  have D1 := fun w => hid' (sector_any Hu.out Hv.out w)
  have D2 := fun w => hid' (rsector_any Hu.out Hv.out w)
  generalize ((alB a a2 && alB b b2) && (alB c c2 && alB d d2)) = B0 at *
  generalize secF u v = S0 at *
  have o1 : FloatKind.f64.format.order 4607182418800017408 4607182418800017408 = some .eq := ord_same (by unfold fin; omega)
  have o2 : FloatKind.f64.format.order 0 0 = some .eq := ord_same (by unfold fin; omega)
  have o3 := eq_one
  have o4 := eq_nil
  clear H1 H2 Hu Hv
  obtain ⟨m0, m1⟩ := kM.two_gr
  obtain ⟨n0, n1⟩ := kN.two_gr
  obtain ⟨p0, p1, p2, p3⟩ := kA.four_gr
  obtain ⟨q0, q1, q2, q3⟩ := kB.four_gr
  obtain ⟨u0, u1⟩ := kU.two_gr
  go_region_held3 (Gr W2)
    (first
      | exact (Gr.refl _).drew
      | exact Gr.trans (by assumption) (by assumption)
      | assumption)
    (first
      | (go_at_call_of 22 a2; refine (SA _).out.mono ?_; rintro e w16 ⟨rfl, g16⟩)
      | (go_at_call 23; refine (SB _).out.mono ?_; rintro e w17 ⟨rfl, g17⟩)
      | (go_at_call 22; refine (SC _).out.mono ?_; rintro e w18 ⟨rfl, g18⟩)
      | (go_at_call 24; refine (D1 _).out.mono ?_; rintro e w19 ⟨rfl, rfl⟩)
      | (go_at_call 15; refine (num_any u v _).mono ?_; rintro e w20 ⟨rfl, g20⟩)
      | (go_at_call 25; refine (D2 _).out.mono ?_; rintro e w21 ⟨rfl, g21⟩)
      | (go_at_call 26; refine (lives_any _).mono ?_; rintro e w22 ⟨rfl, g22⟩))
  rename_i hH
  go_wp2
  go_ret
  exact ⟨rfl, g.out.trans hH⟩
end Go.Proofs.Ytmjfphidcnjklaa
