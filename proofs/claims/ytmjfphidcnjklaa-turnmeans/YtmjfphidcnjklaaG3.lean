/- The law's closed call: a point turned by a quarter, and back. -/
import Derived.Test.YtmjfphidcnjklaaG2
set_option linter.unusedSimpArgs false
namespace Go.Proofs.Ytmjfphidcnjklaa
open Go.RowKit Go.Sort Ieee

theorem V.is {a X : Nat} (L : Nat) (h : V a X) (e : X = L) (n : ¬ isN L) : a = L := by subst e; exact h.eq n
theorem lv_place1 (w : World) : Calls Try.prog 29 #[simV 0 4607182418800017408 4607182418800017408 0, ptV 2 3] w fun e w' => e = .returned (.tuple #[ptV (-2) 2, .int .i64 0]) ∧ Gr w w' := by
  have h := place29_any (x := 2) (y := 3) v0 v1 v1 v0 (by unfold in32; omega) (by unfold in32; omega) w rfl rfl
  rw [show plF (fo .add (tRe 0 4607182418800017408 (floatOfInt .f64 2) (floatOfInt .f64 3)) 4607182418800017408) (fo .add (tIm 0 4607182418800017408 (floatOfInt .f64 2) (floatOfInt .f64 3)) 0) = (-2, 2, 0) from by decide +kernel] at h
  exact h
theorem lv_back (w : World) : Calls Try.prog 19 #[simV 0 4607182418800017408 4607182418800017408 0] w fun e w' => e = .returned (.tuple #[simV 0 13830554455654793216 0 4607182418800017408, .int .i64 0]) ∧ Gr w w' := by
  refine (back_yes v0 v1 v1 v0 (by decide +kernel) w).mono ?_
  rintro e w' ⟨p, q, r, s, rfl, hp, hq, hr, hs, g⟩
  obtain rfl := V.is 0 hp (by decide +kernel) (by decide)
  obtain rfl := V.is 13830554455654793216 hq (by decide +kernel) (by decide)
  obtain rfl := V.is 0 hr (by decide +kernel) (by decide)
  obtain rfl := V.is 4607182418800017408 hs (by decide +kernel) (by decide)
  exact ⟨rfl, g⟩
theorem lv_place2 (w : World) : Calls Try.prog 29 #[simV 0 13830554455654793216 0 4607182418800017408, ptV (-2) 2] w fun e w' => e = .returned (.tuple #[ptV 2 3, .int .i64 0]) ∧ Gr w w' := by
  have h := place29_any (x := -2) (y := 2) v0 (V.refl (a := 13830554455654793216) (by decide)) v0 v1 (by unfold in32; omega) (by unfold in32; omega) w rfl rfl
  rw [show plF (fo .add (tRe 0 13830554455654793216 (floatOfInt .f64 (-2)) (floatOfInt .f64 2)) 0) (fo .add (tIm 0 13830554455654793216 (floatOfInt .f64 (-2)) (floatOfInt .f64 2)) 4607182418800017408) = (2, 3, 0) from by decide +kernel] at h
  exact h
theorem lv_sector (w : World) : Calls Try.prog 24 #[.complex .f64 0 4607182418800017408] w fun e w' => e = .returned (.int .i8 2) ∧ Gr w w' := by
  have h := sector_any (x := 0) (y := 4607182418800017408) (by decide) (by decide) w
  rw [show secF 0 4607182418800017408 = 2 from by decide +kernel] at h
  exact h.mono fun _ _ ⟨h1, h2⟩ => ⟨h1, h2 ▸ Gr.refl _⟩
theorem S2.al {a0 a1 : Addr} {x0 x1 : Value} {W w : World} (h : S2 a0 a1 x0 x1 W w) (o : Obj) : S2 a0 a1 x0 x1 W (w.alloc o) := h.call ((Gr.refl _).alloc o)

theorem Bl.set2 {w : World} {b t : Nat} {x y : Value} (h : Bl w b t #[x, y]) (v u : Value) : Bl ((w.setCell ⟨b, 0, none⟩ v).setCell ⟨b, 1, none⟩ u) b t #[v, u] := by
  unfold Bl at *
  simp [World.setCell, Array.getElem?_modify, h]
theorem Bl.other {w : World} {b t : Nat} {vs : Array Value} (h : Bl w b t vs) {p : Addr} (hp : p.block ≠ b) (v : Value) : Bl (w.setCell p v) b t vs := by
  unfold Bl at *
  simp [World.setCell, Array.getElem?_modify, hp, h]
set_option maxRecDepth 20000 in
set_option maxHeartbeats 6400000 in
theorem lives_any (w : World) : Calls Try.prog 26 #[] w fun e w' => e = .returned (.bool true) ∧ Gr w w' := by
  have k := Bl.new w 28 #[.complex .f64 0 4607182418800017408, .complex .f64 4607182418800017408 0]
  have g : Hid (Gr w (w.alloc (.cells #[.complex .f64 0 4607182418800017408, .complex .f64 4607182418800017408 0] 28))) := (Gr.refl w).alloc _
  have sc := run_store_c
  have si := run_store_i
  go_enter Try.func26, Try.ntmps26
  go_wp2_with fail
  generalize w.alloc (.cells #[.complex .f64 0 4607182418800017408, .complex .f64 4607182418800017408 0] 28) = W1 at *
  obtain ⟨k0, k1, _, _⟩ := k.two
  have hl := k.lt
  generalize hX : w.heap.size = X at *
  go_region_held3 (S2 ⟨X, 0, none⟩ ⟨X, 1, none⟩ (.complex .f64 0 4607182418800017408) (.complex .f64 4607182418800017408 0) w)
    (first
      | exact ⟨k0, k1, g.out.drew⟩
      | exact ⟨k.cell rfl, k.cell rfl, g.out⟩
      | exact ⟨(k.alloc _).cell rfl, (k.alloc _).cell rfl, g.out.alloc _⟩
      | exact ⟨((k.drewN 1).alloc _).cell rfl, ((k.drewN 1).alloc _).cell rfl, g.out.drew.alloc _⟩
      | (refine S2.set (S2.set ⟨k.cell rfl, k.cell rfl, g.out⟩ ?_ ?_ ?_ _) ?_ ?_ ?_ _ <;> first | assumption | (simp only []; omega)))
    (first
      | (go_at_call 56; refine (at_any _ _ _).mono ?_; rintro e w1 ⟨rfl, g1⟩; first | (have kN : Bl w1 W1.heap.size 57 #[.int .i32 0, .int .i32 0] := (Bl.new W1.drew 57 #[.int .i32 0, .int .i32 0]).gr g1; replace k := ((k.drewN 1).alloc _).gr g1; replace g := hid' ((g.out.drew.alloc _).trans g1); have hs1 : W1.heap.size < w1.heap.size := kN.lt) | (replace k := (k.drewN 1).gr g1; replace g := hid' (g.out.drew.trans g1); have hs1 : W1.heap.size ≤ w1.heap.size := g1.size))
      | (go_at_call 29; refine (lv_place1 _).mono ?_; rintro e w2 ⟨rfl, g2⟩; first | (replace kN := kN.gr g2; replace k := k.gr g2; replace g := hid' (g.out.trans g2); obtain ⟨n0, n1, n2, n3⟩ := kN.two) | (have kN := (Bl.new w1 57 #[.int .i32 0, .int .i32 0]).gr g2; replace k := (k.alloc _).gr g2; replace g := hid' ((g.out.alloc _).trans g2); obtain ⟨n0, n1, n2, n3⟩ := kN.two) | (replace k := k.gr g2; replace g := hid' (g.out.trans g2))))
  all_goals (first
    | (have kP := kN.set2 (.int .i32 (-2)) (.int .i32 2)
       have hB : W1.heap.size < w2.heap.size := kN.lt
       replace k := (k.other (p := ⟨W1.heap.size, 0, none⟩) (by simp only []; omega) (.int .i32 (-2))).other (p := ⟨W1.heap.size, 1, none⟩) (by simp only []; omega) (.int .i32 2)
       replace g := hid' ((g.out.setCell (p := ⟨W1.heap.size, 0, none⟩) (by simp only []; omega) (.int .i32 (-2))).setCell (p := ⟨W1.heap.size, 1, none⟩) (by simp only []; omega) (.int .i32 2))
       generalize (w2.setCell ⟨W1.heap.size, 0, none⟩ (.int .i32 (-2))).setCell ⟨W1.heap.size, 1, none⟩ (.int .i32 2) = W2 at *
       generalize W1.heap.size = B at *)
    | (have kP := kN.set2 (.int .i32 (-2)) (.int .i32 2)
       have hB : w1.heap.size < w2.heap.size := kN.lt
       replace k := (k.other (p := ⟨w1.heap.size, 0, none⟩) (by simp only []; omega) (.int .i32 (-2))).other (p := ⟨w1.heap.size, 1, none⟩) (by simp only []; omega) (.int .i32 2)
       replace g := hid' ((g.out.setCell (p := ⟨w1.heap.size, 0, none⟩) (by simp only []; omega) (.int .i32 (-2))).setCell (p := ⟨w1.heap.size, 1, none⟩) (by simp only []; omega) (.int .i32 2))
       generalize (w2.setCell ⟨w1.heap.size, 0, none⟩ (.int .i32 (-2))).setCell ⟨w1.heap.size, 1, none⟩ (.int .i32 2) = W2 at *
       generalize w1.heap.size = B at *)
    | (have kP := Bl.new w2 57 #[.int .i32 (-2), .int .i32 2]
       replace k := k.alloc (.cells #[.int .i32 (-2), .int .i32 2] 57)
       replace g := hid' (g.out.alloc (.cells #[.int .i32 (-2), .int .i32 2] 57))
       generalize w2.alloc (.cells #[.int .i32 (-2), .int .i32 2] 57) = W2 at *
       generalize w2.heap.size = B at *))
  all_goals
    rename_i hH
    clear hH k0 k1
    obtain ⟨k0, k1, _, _⟩ := k.two
    have m0 := kP.cell (i := 0) rfl
    have m1 := kP.cell (i := 1) rfl
    go_wp2_with fail
    refine (lv_back _).mono ?_
    rintro e w3 ⟨rfl, g3⟩
    have hb3 := (kP.gr g3).lt
    replace kP := (kP.gr g3).alloc (.cells #[.complex .f64 0 13830554455654793216, .complex .f64 0 4607182418800017408] 28)
    have kQ := Bl.new w3 28 #[.complex .f64 0 13830554455654793216, .complex .f64 0 4607182418800017408]
    replace g := hid' ((g.out.trans g3).alloc (.cells #[.complex .f64 0 13830554455654793216, .complex .f64 0 4607182418800017408] 28))
    clear k k0 k1 m0 m1 g3
    dsimp only
    obtain ⟨m0, m1, _, _⟩ := kP.two
    obtain ⟨n0, n1, _, _⟩ := kQ.two
    go_wp2_with fail
    refine (lv_place2 _).mono ?_
    rintro e w4 ⟨rfl, g4⟩
    replace kP := (kP.gr g4).alloc (.cells #[.int .i32 2, .int .i32 3] 57)
    have kT := Bl.new w4 57 #[.int .i32 2, .int .i32 3]
    replace g := hid' ((g.out.trans g4).alloc (.cells #[.int .i32 2, .int .i32 3] 57))
    clear kQ m0 m1 n0 n1 g4
    dsimp only
    go_wp2_with fail
    generalize w4.alloc (.cells #[.int .i32 2, .int .i32 3] 57) = W5 at *
    generalize w4.heap.size = C at *
    obtain ⟨m0, m1, _, _⟩ := kP.two
    obtain ⟨n0, n1, _, _⟩ := kT.two
    go_region_held3 (S4 ⟨B, 0, none⟩ ⟨B, 1, none⟩ ⟨C, 0, none⟩ ⟨C, 1, none⟩ (.int .i32 (-2)) (.int .i32 2) (.int .i32 2) (.int .i32 3) w)
      (first
        | exact ⟨m0, m1, n0, n1, g.out.drew⟩
        | exact S4.call (by assumption) (by assumption))
      (first
        | (go_at_call 24; refine (lv_sector _).mono ?_; rintro e w6 ⟨rfl, g6⟩)
        | (go_at_call 56; refine (at_any _ _ _).mono ?_; rintro e w5 ⟨rfl, g5⟩))
    rename_i hH
    have gg := hH.2.2.2.2
    go_wp2
    go_ret
    exact ⟨rfl, gg⟩
end Go.Proofs.Ytmjfphidcnjklaa
