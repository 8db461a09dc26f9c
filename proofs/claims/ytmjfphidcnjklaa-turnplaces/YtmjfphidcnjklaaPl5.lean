/- The law TurnPlaces, walked. -/
import Derived.Test.YtmjfphidcnjklaaPl4
import Derived.Test.YtmjfphidcnjklaaPl4b
set_option linter.unusedSimpArgs false
namespace Go.Proofs.Ytmjfphidcnjklaa
open Go.RowKit Go.Sort Ieee

theorem rfit_yes {px py qx qy rx ry sx sy : Int} (h1 : in32 px) (h2 : in32 py) (h3 : in32 qx) (h4 : in32 qy) (h5 : in32 rx) (h6 : in32 ry) (h7 : in32 sx) (h8 : in32 sy) (hne : ((px == qx) = true ∧ (py == qy) = false) ∨ (px == qx) = false) (w : World) :
    Calls Try.prog 28 #[ptV px py, ptV qx qy, ptV rx ry, ptV sx sy] w fun e w' => ∃ a b c d, e = .returned (.tuple #[mapV a b c d, .int .i64 0]) ∧ V a (ftA px py qx qy rx ry sx sy) ∧ V b (ftB px py qx qy rx ry sx sy) ∧ V c (ftC px py qx qy rx ry sx sy) ∧ V d (ftD px py qx qy rx ry sx sy) ∧ Gr w w' := by
  rcases hne with ⟨hb1, hb2⟩ | hb1
  · exact rfit_yes2 h1 h2 h3 h4 h5 h6 h7 h8 hb1 hb2 w
  · exact rfit_yes1 h1 h2 h3 h4 h5 h6 h7 h8 hb1 w
theorem fits {px py qx qy rx ry sx sy : Int} (h1 : in32 px) (h2 : in32 py) (h3 : in32 qx) (h4 : in32 qy) (h5 : in32 rx) (h6 : in32 ry) (h7 : in32 sx) (h8 : in32 sy) :
    ∃ (A B C D : Nat) (E : Int), (∀ w, Hid (Calls Try.prog 27 #[ptV px py, ptV qx qy, ptV rx ry, ptV sx sy] w fun e w' => ∃ a b c d, e = .returned (.tuple #[simV a b c d, .int .i64 E]) ∧ (V a A ∧ V b B ∧ V c C ∧ V d D) ∧ Gr w w')) ∧
      (∀ w, Hid (Calls Try.prog 28 #[ptV px py, ptV qx qy, ptV rx ry, ptV sx sy] w fun e w' => ∃ a b c d, e = .returned (.tuple #[mapV a b c d, .int .i64 E]) ∧ (V a A ∧ V b B ∧ V c C ∧ V d D) ∧ Gr w w')) := by
  by_cases h : px = qx ∧ py = qy
  · obtain ⟨rfl, rfl⟩ := h
    exact ⟨0, 0, 0, 0, 80, fun w => (fit_no w).mono fun _ _ ⟨k1, k2⟩ => ⟨0, 0, 0, 0, k1, ⟨v0, v0, v0, v0⟩, k2⟩, fun w => (rfit_no w).mono fun _ _ ⟨k1, k2⟩ => ⟨0, 0, 0, 0, k1, ⟨v0, v0, v0, v0⟩, k2⟩⟩
  · have hne : ((px == qx) = true ∧ (py == qy) = false) ∨ (px == qx) = false := by
      by_cases c : px = qx
      · exact .inl ⟨by rw [c]; exact beq_self_eq_true _, by rw [beq_eq_false_iff_ne]; exact fun k => h ⟨c, k⟩⟩
      · exact .inr (by rw [beq_eq_false_iff_ne]; exact c)
    have hne2 : ((px == qx) && (py == qy)) = false := by
      rcases hne with ⟨k1, k2⟩ | k1
      · rw [k1, k2]; rfl
      · rw [k1]; rfl
    exact ⟨_, _, _, _, 0, fun w => (fit_yes h1 h2 h3 h4 h5 h6 h7 h8 hne2 w).mono fun _ _ ⟨a, b, c, d, k1, k2, k3, k4, k5, k6⟩ => ⟨a, b, c, d, k1, ⟨k2, k3, k4, k5⟩, k6⟩, fun w => (rfit_yes h1 h2 h3 h4 h5 h6 h7 h8 hne w).mono fun _ _ ⟨a, b, c, d, k1, k2, k3, k4, k5, k6⟩ => ⟨a, b, c, d, k1, ⟨k2, k3, k4, k5⟩, k6⟩⟩
theorem heads {px py qx qy : Int} (h1 : in32 px) (h2 : in32 py) (h3 : in32 qx) (h4 : in32 qy) :
    ∃ HR HI : Nat, (∀ w, Hid (Calls Try.prog 31 #[ptV px py, ptV qx qy] w fun e w' => ∃ r s, e = .returned (.complex .f64 r s) ∧ (V r HR ∧ V s HI) ∧ Gr w w')) ∧
      (∀ w, Hid (Calls Try.prog 32 #[ptV px py, ptV qx qy] w fun e w' => ∃ r s, e = .returned (numV r s) ∧ (V r HR ∧ V s HI) ∧ Gr w w')) := by
  by_cases h : px = qx ∧ py = qy
  · obtain ⟨rfl, rfl⟩ := h
    exact ⟨0, 0, fun w => (heading_no w).mono fun _ _ ⟨k1, k2⟩ => ⟨0, 0, k1, ⟨v0, v0⟩, k2⟩, fun w => (rheading_no w).mono fun _ _ ⟨k1, k2⟩ => ⟨0, 0, k1, ⟨v0, v0⟩, k2⟩⟩
  · have hne : ((px == qx) = true ∧ (py == qy) = false) ∨ (px == qx) = false := by
      by_cases c : px = qx
      · exact .inl ⟨by rw [c]; exact beq_self_eq_true _, by rw [beq_eq_false_iff_ne]; exact fun k => h ⟨c, k⟩⟩
      · exact .inr (by rw [beq_eq_false_iff_ne]; exact c)
    obtain ⟨L, _, k1, k2⟩ := headings h1 h2 h3 h4 hne
    exact ⟨_, _, fun w => (k1 w).mono fun _ _ ⟨r, s, j1, j2, j3, j4⟩ => ⟨r, s, j1, ⟨j2, j3⟩, j4⟩, fun w => (k2 w).mono fun _ _ ⟨r, s, j1, j2, j3, j4⟩ => ⟨r, s, j1, ⟨j2, j3⟩, j4⟩⟩

set_option maxRecDepth 20000 in
set_option maxHeartbeats 12800000 in
theorem places_walk (px py qx qy rx ry sx sy : Int) (a b c d : Nat) (h1 : in32 px) (h2 : in32 py) (h3 : in32 qx) (h4 : in32 qy) (h5 : in32 rx) (h6 : in32 ry) (h7 : in32 sx) (h8 : in32 sy) (ha : a < 18446744073709551616) (hb : b < 18446744073709551616) (hc : c < 18446744073709551616) (hd : d < 18446744073709551616) (w : World) :
    Calls Try.prog 4 #[.agg #[.int .i32 px, .int .i32 py, .int .i32 qx, .int .i32 qy, .int .i32 rx, .int .i32 ry, .int .i32 sx, .int .i32 sy], .agg #[.int .u64 (a : Int), .int .u64 (b : Int), .int .u64 (c : Int), .int .u64 (d : Int)]] w fun e w' => e = .returned (.bool true) ∧ Gr w w' := by
  obtain ⟨FA, FB, FC, FD, FE, F1, F2⟩ := fits h1 h2 h3 h4 h5 h6 h7 h8
  obtain ⟨HR, HI, D1, D2⟩ := heads h1 h2 h3 h4
  have LM : Hid (∀ p q r s p2 q2 r2 s2, (V p FA ∧ V q FB ∧ V r FC ∧ V s FD) → (V p2 FA ∧ V q2 FB ∧ V r2 FC ∧ V s2 FD) → ∀ w, Calls Try.prog 16 #[simV p q r s, mapV p2 q2 r2 s2] w fun e w' => e = .returned (.bool true) ∧ Gr w w') := fun _ _ _ _ _ _ _ _ k l w => law_alikeMap k.1 k.2.1 k.2.2.1 k.2.2.2 l.1 l.2.1 l.2.2.1 l.2.2.2 w
  have LA : Hid (∀ p q r s, (V p HR ∧ V q HI) → (V r HR ∧ V s HI) → ∀ w, Calls Try.prog 12 #[.complex .f64 p q, numV r s] w fun e w' => e = .returned (.bool true) ∧ Gr w w') := fun _ _ _ _ k l w => law_alike k.1 k.2 l.1 l.2 w
  have PA := fun w => hid' (place29_any (V.refl ha) (V.refl hb) (V.refl hc) (V.refl hd) h1 h2 w rfl rfl)
  have PB := fun w => hid' (rplace_any (x := px) (y := py) (V.refl ha) (V.refl hb) (V.refl hc) (V.refl hd) w rfl rfl)
  have SA := fun w => hid' (similar_any a b c d w)
  have NA := fun w => hid' (numMap_any a b c d w)
  generalize plF (fo .add (tRe a b (fi px) (fi py)) c) (fo .add (tIm a b (fi px) (fi py)) d) = P3 at *
  obtain ⟨x1, x2, E2⟩ := P3
  dsimp only at PA PB
  obtain ⟨kX, kF, g⟩ := two_new w 59 24 #[.int .i32 px, .int .i32 py, .int .i32 qx, .int .i32 qy, .int .i32 rx, .int .i32 ry, .int .i32 sx, .int .i32 sy] #[.int .u64 (a : Int), .int .u64 (b : Int), .int .u64 (c : Int), .int .u64 (d : Int)]
  have sc := run_store_c
  have sf := run_store_f
  have si := run_store_i
  clear h1 h2 h3 h4 h5 h6 h7 h8 ha hb hc hd
  go_enter Try.func4, Try.ntmps4
  go_wp2_with fail
  refine (F1 _).out.mono ?_
  rintro e w1 ⟨a1, b1, c1, d1, rfl, t1, g1⟩
  replace kX := (kX.gr g1).alloc (.cells #[.complex .f64 a1 b1, .complex .f64 c1 d1] 28)
  replace kF := (kF.gr g1).alloc (.cells #[.complex .f64 a1 b1, .complex .f64 c1 d1] 28)
  have kM := Bl.new w1 28 #[.complex .f64 a1 b1, .complex .f64 c1 d1]
  replace g := (g.trans g1).alloc (.cells #[.complex .f64 a1 b1, .complex .f64 c1 d1] 28)
  clear g1 F1
  dsimp only
  have b0 := kX.cell (i := 0) rfl
  have b1' := kX.cell (i := 1) rfl
  have b2 := kX.cell (i := 2) rfl
  have b3 := kX.cell (i := 3) rfl
  have b4 := kX.cell (i := 4) rfl
  have b5 := kX.cell (i := 5) rfl
  have b6 := kX.cell (i := 6) rfl
  have b7 := kX.cell (i := 7) rfl
  go_wp2_with fail
  refine (F2 _).out.mono ?_
  rintro e w2 ⟨a2, b2', c2, d2, rfl, t2, g2⟩
  have LL := fun w => hid' (LM.out _ _ _ _ _ _ _ _ t1 t2 w)
  replace kX := (kX.gr g2).alloc (.cells #[.float .f64 a2, .float .f64 b2', .float .f64 c2, .float .f64 d2] 35)
  replace kF := (kF.gr g2).alloc (.cells #[.float .f64 a2, .float .f64 b2', .float .f64 c2, .float .f64 d2] 35)
  replace kM := (kM.gr g2).alloc (.cells #[.float .f64 a2, .float .f64 b2', .float .f64 c2, .float .f64 d2] 35)
  have kN0 := Bl.new w2 35 #[.float .f64 a2, .float .f64 b2', .float .f64 c2, .float .f64 d2]
  replace g := (g.trans g2).alloc (.cells #[.float .f64 a2, .float .f64 b2', .float .f64 c2, .float .f64 d2] 35)
  clear g2 F2 LM t1 t2 b0 b1' b2 b3 b4 b5 b6 b7
  dsimp only
  obtain ⟨m0, m1, _, _⟩ := kM.two
  obtain ⟨⟨n0, n1, n2, n3⟩, _⟩ := kN0.four
  go_wp2_with fail
  refine (LL _).out.mono ?_
  rintro e w3 ⟨rfl, g3⟩
  replace kX := kX.gr g3
  replace kF := kF.gr g3
  replace g := hid' (g.trans g3)
  clear g3 LL m0 m1 n0 n1 n2 n3 kM kN0
  dsimp only
  go_wp2_with fail
  generalize w3 = W at *
  go_cut [9, 10] (fun s9 s10 w' => ∃ Y, (s9 = .pointer (some ⟨Y, 0, none⟩) ∧ s10 = .int .i64 E2) ∧ Bl w' Y 57 #[.int .i32 x1, .int .i32 x2] ∧ Bl w' w.heap.size 59 #[.int .i32 px, .int .i32 py, .int .i32 qx, .int .i32 qy, .int .i32 rx, .int .i32 ry, .int .i32 sx, .int .i32 sy] ∧ Bl w' (w.heap.size + 1) 24 #[.int .u64 (a : Int), .int .u64 (b : Int), .int .u64 (c : Int), .int .u64 (d : Int)] ∧ Gr w w')
  case first =>
    have hlX := kX.lt
    have hlF := kF.lt
    have c0 : ∀ w', Gr W w' → w'.cell? ⟨w.heap.size, 0, none⟩ = some (.int .i32 px) := fun _ g => (kX.gr g).cell rfl
    have c1 : ∀ w', Gr W w' → w'.cell? ⟨w.heap.size, 1, none⟩ = some (.int .i32 py) := fun _ g => (kX.gr g).cell rfl
    obtain ⟨f0, f1, f2, f3⟩ := kF.four_gr
    clear PB NA LA D1 D2
    go_region_held3 (Gr W)
      (first
        | exact (Gr.refl _).drew
        | exact Gr.trans (by assumption) (by assumption)
        | assumption
        | exact Gr.alloc (by assumption) _
        | (refine Gr.setCell (Gr.setCell (by assumption) ?_ _) ?_ _ <;> (simp only []; omega)))
      (first
        | (go_at_call 9; refine ((SA _).out).mono ?_; rintro e v1 ⟨rfl, j1⟩; have J1 : Gr W v1 := Gr.trans (by assumption) j1; have hs1 : W.heap.size ≤ v1.heap.size := J1.size; first | (have kN : Bl v1 W.heap.size 57 #[.int .i32 0, .int .i32 0] := (Bl.new W.drew 57 #[.int .i32 0, .int .i32 0]).gr j1) | skip)
        | (go_at_call 29; refine ((PA _).out).mono ?_; rintro e v2 ⟨rfl, j2⟩; have J2 : Gr W v2 := Gr.trans (by assumption) j2; have hs2 : W.heap.size ≤ v2.heap.size := J2.size; first | (replace kN := kN.gr j2; obtain ⟨n0, n1, n2, n3⟩ := kN.two) | (have kN : Bl v2 v1.heap.size 57 #[.int .i32 0, .int .i32 0] := (Bl.new v1 57 #[.int .i32 0, .int .i32 0]).gr j2; obtain ⟨n0, n1, n2, n3⟩ := kN.two) | skip))
    all_goals
      rename_i hH
      clear hH
      replace kX := kX.gr J2
      replace kF := kF.gr J2
      replace g := hid' (g.out.trans J2)
    all_goals (first
      | (have kT := kN.set2 (.int .i32 x1) (.int .i32 x2)
         have hB : W.heap.size < v2.heap.size := kN.lt
         replace kX := (kX.other (p := ⟨W.heap.size, 0, none⟩) (by simp only []; omega) (.int .i32 x1)).other (p := ⟨W.heap.size, 1, none⟩) (by simp only []; omega) (.int .i32 x2)
         replace kF := (kF.other (p := ⟨W.heap.size, 0, none⟩) (by simp only []; omega) (.int .i32 x1)).other (p := ⟨W.heap.size, 1, none⟩) (by simp only []; omega) (.int .i32 x2)
         replace g := hid' ((g.out.setCell (p := ⟨W.heap.size, 0, none⟩) (by simp only []; omega) (.int .i32 x1)).setCell (p := ⟨W.heap.size, 1, none⟩) (by simp only []; omega) (.int .i32 x2))
         generalize (v2.setCell ⟨W.heap.size, 0, none⟩ (.int .i32 x1)).setCell ⟨W.heap.size, 1, none⟩ (.int .i32 x2) = W4 at *
         generalize W.heap.size = Y at *)
      | (have kT := kN.set2 (.int .i32 x1) (.int .i32 x2)
         have hB : v1.heap.size < v2.heap.size := kN.lt
         replace kX := (kX.other (p := ⟨v1.heap.size, 0, none⟩) (by simp only []; omega) (.int .i32 x1)).other (p := ⟨v1.heap.size, 1, none⟩) (by simp only []; omega) (.int .i32 x2)
         replace kF := (kF.other (p := ⟨v1.heap.size, 0, none⟩) (by simp only []; omega) (.int .i32 x1)).other (p := ⟨v1.heap.size, 1, none⟩) (by simp only []; omega) (.int .i32 x2)
         replace g := hid' ((g.out.setCell (p := ⟨v1.heap.size, 0, none⟩) (by simp only []; omega) (.int .i32 x1)).setCell (p := ⟨v1.heap.size, 1, none⟩) (by simp only []; omega) (.int .i32 x2))
         generalize (v2.setCell ⟨v1.heap.size, 0, none⟩ (.int .i32 x1)).setCell ⟨v1.heap.size, 1, none⟩ (.int .i32 x2) = W4 at *
         generalize v1.heap.size = Y at *)
      | (have kT := Bl.new v2 57 #[.int .i32 x1, .int .i32 x2]
         replace kX := kX.alloc (.cells #[.int .i32 x1, .int .i32 x2] 57)
         replace kF := kF.alloc (.cells #[.int .i32 x1, .int .i32 x2] 57)
         replace g := hid' (g.out.alloc (.cells #[.int .i32 x1, .int .i32 x2] 57))
         generalize v2.alloc (.cells #[.int .i32 x1, .int .i32 x2] 57) = W4 at *
         generalize v2.heap.size = Y at *))
    all_goals
      go_wp2_with fail
      go_meet
      exact ⟨Y, ⟨rfl, rfl⟩, kT, kX, kF, g.out⟩
  case rest =>
    obtain ⟨Y1, ⟨rfl, rfl⟩, kY, kX', kF', g'⟩ := hcut
    clear kX kF g
    have kX := kX'
    have kF := kF'
    have g := hid' g'
    clear kX' kF' g' PA
    go_wp2_with fail
    generalize wc = W' at *
    go_cut [11, 12] (fun s9 s10 w' => ∃ Y, (s9 = .pointer (some ⟨Y, 0, none⟩) ∧ s10 = .int .i64 E2) ∧ Bl w' Y 57 #[.int .i32 x1, .int .i32 x2] ∧ Bl w' w.heap.size 59 #[.int .i32 px, .int .i32 py, .int .i32 qx, .int .i32 qy, .int .i32 rx, .int .i32 ry, .int .i32 sx, .int .i32 sy] ∧ Bl w' Y1 57 #[.int .i32 x1, .int .i32 x2] ∧ Gr w w')
    case first =>
     generalize W' = W at *
     have hlX := kX.lt
     have hlF := kF.lt
     have hlY := kY.lt
     have c0 : ∀ w', Gr W w' → w'.cell? ⟨w.heap.size, 0, none⟩ = some (.int .i32 px) := fun _ g => (kX.gr g).cell rfl
     have c1 : ∀ w', Gr W w' → w'.cell? ⟨w.heap.size, 1, none⟩ = some (.int .i32 py) := fun _ g => (kX.gr g).cell rfl
     obtain ⟨f0, f1, f2, f3⟩ := kF.four_gr
     clear LA D1 D2
     go_region_held3 (Gr W)
       (first
         | exact (Gr.refl _).drew
         | exact Gr.trans (by assumption) (by assumption)
         | assumption
         | exact Gr.alloc (by assumption) _
         | (refine Gr.setCell (Gr.setCell (by assumption) ?_ _) ?_ _ <;> (simp only []; omega)))
       (first
         | (go_at_call 9; refine ((SA _).out).mono ?_; rintro e v1 ⟨rfl, j1⟩; have J1 : Gr W v1 := Gr.trans (by assumption) j1; have hs1 : W.heap.size ≤ v1.heap.size := J1.size; first | (have kN : Bl v1 W.heap.size 57 #[.int .i32 0, .int .i32 0] := (Bl.new W.drew 57 #[.int .i32 0, .int .i32 0]).gr j1) | skip)
         | (go_at_call 11; refine ((NA _).out).mono ?_; rintro e v2 ⟨rfl, j2⟩; have J2 : Gr W v2 := Gr.trans (by assumption) j2; have hs2 : W.heap.size ≤ v2.heap.size := J2.size; first | (replace kN := kN.gr j2) | (have kN : Bl v2 v1.heap.size 57 #[.int .i32 0, .int .i32 0] := (Bl.new v1 57 #[.int .i32 0, .int .i32 0]).gr j2) | skip)
         | (go_at_call 30; refine ((PB _).out).mono ?_; rintro e v3 ⟨rfl, j3⟩; have J3 : Gr W v3 := Gr.trans (by assumption) j3; have hs3 : W.heap.size ≤ v3.heap.size := J3.size; first | (replace kN := kN.gr j3; obtain ⟨n0, n1, n2, n3⟩ := kN.two) | (have kN : Bl v3 v2.heap.size 57 #[.int .i32 0, .int .i32 0] := (Bl.new v2 57 #[.int .i32 0, .int .i32 0]).gr j3; obtain ⟨n0, n1, n2, n3⟩ := kN.two) | skip))
     all_goals
       rename_i hH
       clear hH
       replace kX := kX.gr J3
       replace kF := kF.gr J3
       replace kY := kY.gr J3
       replace g := hid' (g.out.trans J3)
     all_goals (first
       | (have kT := kN.set2 (.int .i32 x1) (.int .i32 x2)
          have hB : W.heap.size < v3.heap.size := kN.lt
          replace kX := (kX.other (p := ⟨W.heap.size, 0, none⟩) (by simp only []; omega) (.int .i32 x1)).other (p := ⟨W.heap.size, 1, none⟩) (by simp only []; omega) (.int .i32 x2)
          replace kF := (kF.other (p := ⟨W.heap.size, 0, none⟩) (by simp only []; omega) (.int .i32 x1)).other (p := ⟨W.heap.size, 1, none⟩) (by simp only []; omega) (.int .i32 x2)
          replace kY := (kY.other (p := ⟨W.heap.size, 0, none⟩) (by simp only []; omega) (.int .i32 x1)).other (p := ⟨W.heap.size, 1, none⟩) (by simp only []; omega) (.int .i32 x2)
          replace g := hid' ((g.out.setCell (p := ⟨W.heap.size, 0, none⟩) (by simp only []; omega) (.int .i32 x1)).setCell (p := ⟨W.heap.size, 1, none⟩) (by simp only []; omega) (.int .i32 x2))
          generalize (v3.setCell ⟨W.heap.size, 0, none⟩ (.int .i32 x1)).setCell ⟨W.heap.size, 1, none⟩ (.int .i32 x2) = W4 at *
          generalize W.heap.size = Y at *)
       | (have kT := kN.set2 (.int .i32 x1) (.int .i32 x2)
          have hB : v1.heap.size < v3.heap.size := kN.lt
          replace kX := (kX.other (p := ⟨v1.heap.size, 0, none⟩) (by simp only []; omega) (.int .i32 x1)).other (p := ⟨v1.heap.size, 1, none⟩) (by simp only []; omega) (.int .i32 x2)
          replace kF := (kF.other (p := ⟨v1.heap.size, 0, none⟩) (by simp only []; omega) (.int .i32 x1)).other (p := ⟨v1.heap.size, 1, none⟩) (by simp only []; omega) (.int .i32 x2)
          replace kY := (kY.other (p := ⟨v1.heap.size, 0, none⟩) (by simp only []; omega) (.int .i32 x1)).other (p := ⟨v1.heap.size, 1, none⟩) (by simp only []; omega) (.int .i32 x2)
          replace g := hid' ((g.out.setCell (p := ⟨v1.heap.size, 0, none⟩) (by simp only []; omega) (.int .i32 x1)).setCell (p := ⟨v1.heap.size, 1, none⟩) (by simp only []; omega) (.int .i32 x2))
          generalize (v3.setCell ⟨v1.heap.size, 0, none⟩ (.int .i32 x1)).setCell ⟨v1.heap.size, 1, none⟩ (.int .i32 x2) = W4 at *
          generalize v1.heap.size = Y at *)
       | (have kT := kN.set2 (.int .i32 x1) (.int .i32 x2)
          have hB : v2.heap.size < v3.heap.size := kN.lt
          replace kX := (kX.other (p := ⟨v2.heap.size, 0, none⟩) (by simp only []; omega) (.int .i32 x1)).other (p := ⟨v2.heap.size, 1, none⟩) (by simp only []; omega) (.int .i32 x2)
          replace kF := (kF.other (p := ⟨v2.heap.size, 0, none⟩) (by simp only []; omega) (.int .i32 x1)).other (p := ⟨v2.heap.size, 1, none⟩) (by simp only []; omega) (.int .i32 x2)
          replace kY := (kY.other (p := ⟨v2.heap.size, 0, none⟩) (by simp only []; omega) (.int .i32 x1)).other (p := ⟨v2.heap.size, 1, none⟩) (by simp only []; omega) (.int .i32 x2)
          replace g := hid' ((g.out.setCell (p := ⟨v2.heap.size, 0, none⟩) (by simp only []; omega) (.int .i32 x1)).setCell (p := ⟨v2.heap.size, 1, none⟩) (by simp only []; omega) (.int .i32 x2))
          generalize (v3.setCell ⟨v2.heap.size, 0, none⟩ (.int .i32 x1)).setCell ⟨v2.heap.size, 1, none⟩ (.int .i32 x2) = W4 at *
          generalize v2.heap.size = Y at *)
       | (have kT := Bl.new v3 57 #[.int .i32 x1, .int .i32 x2]
          replace kX := kX.alloc (.cells #[.int .i32 x1, .int .i32 x2] 57)
          replace kF := kF.alloc (.cells #[.int .i32 x1, .int .i32 x2] 57)
          replace kY := kY.alloc (.cells #[.int .i32 x1, .int .i32 x2] 57)
          replace g := hid' (g.out.alloc (.cells #[.int .i32 x1, .int .i32 x2] 57))
          generalize v3.alloc (.cells #[.int .i32 x1, .int .i32 x2] 57) = W4 at *
          generalize v3.heap.size = Y at *))
     all_goals
       go_wp2_with fail
       go_meet
       exact ⟨Y, ⟨rfl, rfl⟩, kT, kX, kY, g.out⟩
    case rest =>
      obtain ⟨Y2, ⟨rfl, rfl⟩, kZ, kX', kY', g'⟩ := hcut
      clear kX kY kF g
      have kX := kX'
      have kY := kY'
      have g := hid' g'
      clear kX' kY' g' PB SA NA
      go_wp2_with fail
      generalize wc = W2 at *
      have c0 : ∀ w', Gr W2 w' → w'.cell? ⟨w.heap.size, 0, none⟩ = some (.int .i32 px) := fun _ g => (kX.gr g).cell rfl
      have c1 : ∀ w', Gr W2 w' → w'.cell? ⟨w.heap.size, 1, none⟩ = some (.int .i32 py) := fun _ g => (kX.gr g).cell rfl
      have c2 : ∀ w', Gr W2 w' → w'.cell? ⟨w.heap.size, 2, none⟩ = some (.int .i32 qx) := fun _ g => (kX.gr g).cell rfl
      have c3 : ∀ w', Gr W2 w' → w'.cell? ⟨w.heap.size, 3, none⟩ = some (.int .i32 qy) := fun _ g => (kX.gr g).cell rfl
      obtain ⟨y0, y1⟩ := kY.two_gr
      obtain ⟨z0, z1⟩ := kZ.two_gr
      go_region_held3 (Gr W2)
        (first
          | exact (Gr.refl _).drew
          | exact Gr.trans (by assumption) (by assumption)
          | assumption)
        (first
          | (go_at_call 31; refine (D1 _).out.mono ?_; rintro e w5 ⟨r5, s5, rfl, t5, g5⟩)
          | (go_at_call 32; refine (D2 _).out.mono ?_; rintro e w6 ⟨r6, s6, rfl, t6, g6⟩)
          | (go_at_call 12; refine (LA.out _ _ _ _ t5 t6 _).mono ?_; rintro e w7 ⟨rfl, g7⟩)
          | (go_at_call 26; refine (lives_any _).mono ?_; rintro e w8 ⟨rfl, g8⟩))
      rename_i hH
      go_wp2
      go_ret
      exact ⟨rfl, g.out.trans hH⟩
end Go.Proofs.Ytmjfphidcnjklaa
