/- TrackTurns' walk. -/
import Derived.Test.YtgdmbcfjjdngdaaDoorHg
import Derived.Test.YtgdmbcfjjdngdaaDoorLv
set_option linter.unusedSimpArgs false
set_option linter.unusedVariables false
namespace Go.Proofs.YtgdmbcfjjdngdaaDoor
open Go.RowKit Go.Sort

theorem sg3_neg (x : Int) : sg3 (-x) = -sg3 x := by unfold sg3; split <;> split <;> (try split) <;> (try split) <;> omega
theorem sg3_zero {x : Int} (h : sg3 x = 0) : x = 0 := by unfold sg3 at h; split at h; cases h; split at h; cases h; omega
theorem fl_ne {a b : Nat} (h : flB a b = true) : flB b a = false ∧ a ≠ 0 := by
  unfold flB at *
  simp only [Bool.and_eq_true, decide_eq_true_eq] at h
  exact ⟨by rw [decide_eq_false (by omega), Bool.false_and], by omega⟩
theorem fl_zero {b : Nat} (h : b ≠ 0) : flB b 0 = true := by
  unfold flB
  simp only [Bool.and_eq_true, decide_eq_true_eq]
  refine ⟨by omega, ?_⟩
  have : 1 * 1 ≤ b * b := Nat.mul_le_mul (by omega) (by omega)
  simp
  omega
theorem sec_check : ∀ sx ∈ [(-1 : Int), 0, 1], ∀ sy ∈ [(-1 : Int), 0, 1], ∀ A B : Bool, (A = true → sx ≠ 0 ∧ B = false) → (B = true → sy ≠ 0) → (sx = 0 → sy ≠ 0 → B = true) → (sy = 0 → sx ≠ 0 → A = true) → ¬ (sx = 0 ∧ sy = 0) →
    let h := if A then secT 0 sx else if B then secT sy 0 else secT sy sx
    (0 ≤ h ∧ h ≤ 7) ∧ (if A then secT 0 (-sx) else if B then secT (-sy) 0 else secT (-sy) (-sx)) = (h + 4) % 8 ∧
      (if B then secT 0 (-sy) else if A then secT sx 0 else secT sx (-sy)) = (h + 2) % 8 := by decide
theorem hd_turn {dx dy : Int} (h : ¬ (dx = 0 ∧ dy = 0)) : (0 ≤ hdF dx dy ∧ hdF dx dy ≤ 7) ∧ hdF (-dx) (-dy) = (hdF dx dy + 4) % 8 ∧ hdF (-dy) dx = (hdF dx dy + 2) % 8 := by
  have m : ∀ x, sg3 x ∈ [(-1 : Int), 0, 1] := fun x => by rcases sg3_in x with e | e | e <;> rw [e] <;> decide
  have z : ∀ x : Int, x = 0 → sg3 x = 0 := fun x e => by rw [e]; rfl
  have := sec_check (sg3 dx) (m dx) (sg3 dy) (m dy) (flB dx.natAbs dy.natAbs) (flB dy.natAbs dx.natAbs)
    (fun e => ⟨fun e2 => (fl_ne e).2 (by rw [sg3_zero e2]; rfl), (fl_ne e).1⟩)
    (fun e e2 => (fl_ne e).2 (by rw [sg3_zero e2]; rfl))
    (fun e e2 => by rw [sg3_zero e]; exact fl_zero (fun e3 => e2 (z _ (by omega))))
    (fun e e2 => by rw [sg3_zero e]; exact fl_zero (fun e3 => e2 (z _ (by omega))))
    (fun ⟨e1, e2⟩ => h ⟨sg3_zero e1, sg3_zero e2⟩)
  unfold hdF
  simp only [Int.natAbs_neg, sg3_neg]
  exact this
theorem hd_none : hdF 0 0 = -1 := by decide
set_option maxRecDepth 20000 in
set_option maxHeartbeats 4000000 in
theorem turns_walk {x y u v : Int} (hx : in32 x) (hy : in32 y) (hu : in32 u) (hv : in32 v) (w : World) (hT : Tab w) (hS : Sec w) :
    Calls Tryd.prog 5 #[pt x y, pt u v] w fun e w' => e = .returned (.bool true) ∧ Below w.heap.size w w' := by
  obtain ⟨g, k1, k2⟩ := two_pts x y u v w
  have cx := conv64 hx
  have cy := conv64 hy
  have cu := conv64 hu
  have cv := conv64 hv
  have a1 := sub33 hx hu
  have a2 := sub33 hy hv
  obtain ⟨hf, hhf⟩ : ∃ hf : Int → Int → Int → Int → Int, ∀ p q r s, hf p q r s = hdF (r - p) (s - q) := ⟨_, fun _ _ _ _ => rfl⟩
  have HD : Hid (∀ p q r s W, in32 p → in32 q → in32 r → in32 s → Gr w W → Calls Tryd.prog 13 #[pt p q, pt r s] W fun e w' => e = .returned (.int .i64 (hf p q r s)) ∧ Gr W w') := fun p q r s W h1 h2 h3 h4 h5 => by
    rw [hhf]
    exact heading_any h1 h2 h3 h4 W (hS.gr h5)
  have WK : Hid (∀ W, Gr w W → Calls Tryd.prog 15 #[] W fun e w' => e = .returned (.bool true) ∧ Below W.heap.size W w') := fun W g => works_any W (hT.below g.below)
  obtain ⟨dx, hdx⟩ : ∃ dx, dx = u - x := ⟨_, rfl⟩
  obtain ⟨dy, hdy⟩ : ∃ dy, dy = v - y := ⟨_, rfl⟩
  have D1 : wrap64 (u - x) = dx := by rw [hdx]; exact a1.2
  have D2 : wrap64 (v - y) = dy := by rw [hdy]; exact a2.2
  have e1 : hf x y u v = hdF dx dy := by rw [hhf, hdx, hdy]
  have e2 : hf u v x y = hdF (-dx) (-dy) := by rw [hhf, hdx, hdy, Int.neg_sub, Int.neg_sub]
  have e3 : hf 0 0 dx dy = hdF dx dy := by rw [hhf, Int.sub_zero, Int.sub_zero]
  have e4 : hf 0 0 (-dy) dx = hdF (-dy) dx := by rw [hhf, Int.sub_zero, Int.sub_zero]
  have r1 := a1.1
  have r2 := a2.1
  rw [← hdx] at r1
  rw [← hdy] at r2
  clear hhf a1 a2 hdx hdy hT hS
  have G := hid0 g
  by_cases hz : dx = 0 ∧ dy = 0
  · have z1 : (dx == 0) = true := by simp [hz.1]
    have z2 : (dy == 0) = true := by simp [hz.2]
    have z3 : (hf x y u v == -1) = true := by rw [e1, hz.1, hz.2, hd_none]; rfl
    clear e1 e2 e3 e4 r1 r2 hz g
    go_enter Tryd.func5, Tryd.ntmps5
    go_upto_region 1 with fail
    generalize w.heap.size + 1 = b2 at *
    generalize w.heap.size = b1 at *
    generalize World.alloc _ _ = W at *
    obtain ⟨p0, p1⟩ := k1.two
    obtain ⟨q0, q1⟩ := k2.two
    clear k1 k2
    go_upto_region 4 with (go_at_call 13; refine (HD.out _ _ _ _ _ (by assumption) (by assumption) (by assumption) (by assumption) G.out).mono ?_; rintro e w1 ⟨rfl, g1⟩)
    have G1 := G.out.trans g1
    have WW := hid0 (WK.out _ G1)
    clear WK HD g1 p0 p1 q0 q1
    go_wp2_with (go_at_call 15; refine WW.out.mono ?_; rintro e w3 ⟨rfl, hb⟩)
    go_ret
    exact ⟨rfl, G1.below.trans (hb.mono G1.size)⟩
  · obtain ⟨⟨t1, t2⟩, t3, t4⟩ := hd_turn hz
    rw [← e1] at t1 t2 t3 t4
    rw [← e2] at t3
    rw [← e4] at t4
    rw [← e1] at e3
    have zz : (dx = 0 ∧ ¬ dy = 0 ∧ (dy == 0) = false) ∨ (¬ dx = 0 ∧ (dx == 0) = false) := by
      by_cases c : dx = 0
      · have c2 : ¬ dy = 0 := fun h => hz ⟨c, h⟩
        exact .inl ⟨c, c2, by simp [c2]⟩
      · exact .inr ⟨c, by simp [c]⟩
    clear e1 e2 e4 g hz
    rcases zz with ⟨rfl, z1, z2⟩ | ⟨z1, z2⟩
    all_goals
      go_enter Tryd.func5, Tryd.ntmps5
      go_upto_region 1 with fail
      generalize w.heap.size + 1 = b2 at *
      generalize w.heap.size = b1 at *
      generalize World.alloc _ _ = W at *
      obtain ⟨p0, p1⟩ := k1.two
      obtain ⟨q0, q1⟩ := k2.two
      go_upto_region 4 with (go_at_call 13; refine (HD.out _ _ _ _ _ (by assumption) (by assumption) (by assumption) (by assumption) G.out).mono ?_; rintro e w1 ⟨rfl, g1⟩)
      have G1 := G.out.trans g1
      obtain ⟨p0, p1⟩ := (k1.gr g1).two
      obtain ⟨q0, q1⟩ := (k2.gr g1).two
      clear g1 k1 k2
      go_upto_region 7 with (go_at_call 13; refine (HD.out _ _ _ _ _ (by assumption) (by assumption) (by assumption) (by assumption) G1).mono ?_; rintro e w2 ⟨rfl, g2⟩)
      have G2 := G1.trans g2
      have WW := hid0 (WK.out _ G2)
      have WK' := WK
      clear WK p0 p1 q0 q1 g2
      generalize hf x y u v = h at *
      have n1 : ¬ h < 0 := by omega
      have n2 : ¬ h > 7 := by omega
      have w4 : wrap64 (h + 4) = h + 4 := by unfold wrap64; omega
      have w2 : wrap64 (h + 2) = h + 2 := by unfold wrap64; omega
      go_upto_region 9 with fail
    · by_cases b0 : dy < -1073741824
      · clear HD WK' r1 r2 t1 t2 t3 t4 e3
        go_wp2_with (go_at_call 15; refine WW.out.mono ?_; rintro e w3 ⟨rfl, hb⟩)
        go_ret
        exact ⟨rfl, G2.below.trans (hb.mono G2.size)⟩
      by_cases b1 : dy > 1073741824
      · clear HD WK' r1 r2 t1 t2 t3 t4 e3
        go_wp2_with (go_at_call 15; refine WW.out.mono ?_; rintro e w3 ⟨rfl, hb⟩)
        go_ret
        exact ⟨rfl, G2.below.trans (hb.mono G2.size)⟩
      have i1 : in32 0 := by unfold in32; omega
      have i2 : in32 dy := by unfold in32; omega
      have i3 : in32 (-dy) := by unfold in32; omega
      have i0 : in32 0 := by unfold in32; omega
      have m1 : IntKind.i32.wrap 0 = 0 := w32_in i1
      have m2 : IntKind.i32.wrap dy = dy := w32_in i2
      have m3 : IntKind.i32.wrap (-dy) = -dy := w32_in i3
      have m4 : wrap64 (-dy) = -dy := by unfold wrap64; omega
      clear hx hy hu hv cx cy cu cv
      go_upto_region 12 with (go_at_call 13; refine (HD.out _ _ _ _ _ (by assumption) (by assumption) (by assumption) (by assumption) G2).mono ?_; rintro e w3 ⟨rfl, g3⟩)
      have G3 := G2.trans g3
      go_upto_region 13 with (go_at_call 13; refine (HD.out _ _ _ _ _ (by assumption) (by assumption) (by assumption) (by assumption) G3).mono ?_; rintro e w4' ⟨rfl, g4⟩)
      have G4 := G3.trans g4
      have W4 := hid0 (WK'.out _ G4)
      clear HD WK' WW g3 g4 D1 D2
      go_wp2_with (go_at_call 15; refine W4.out.mono ?_; rintro e w5 ⟨rfl, hb⟩)
      go_ret
      exact ⟨rfl, G4.below.trans (hb.mono G4.size)⟩
    · by_cases b0 : dx < -1073741824
      · clear HD WK' r1 r2 t1 t2 t3 t4 e3
        go_wp2_with (go_at_call 15; refine WW.out.mono ?_; rintro e w3 ⟨rfl, hb⟩)
        go_ret
        exact ⟨rfl, G2.below.trans (hb.mono G2.size)⟩
      by_cases b1 : dx > 1073741824
      · clear HD WK' r1 r2 t1 t2 t3 t4 e3
        go_wp2_with (go_at_call 15; refine WW.out.mono ?_; rintro e w3 ⟨rfl, hb⟩)
        go_ret
        exact ⟨rfl, G2.below.trans (hb.mono G2.size)⟩
      by_cases b2 : dy < -1073741824
      · clear HD WK' r1 r2 t1 t2 t3 t4 e3
        go_wp2_with (go_at_call 15; refine WW.out.mono ?_; rintro e w3 ⟨rfl, hb⟩)
        go_ret
        exact ⟨rfl, G2.below.trans (hb.mono G2.size)⟩
      by_cases b3 : dy > 1073741824
      · clear HD WK' r1 r2 t1 t2 t3 t4 e3
        go_wp2_with (go_at_call 15; refine WW.out.mono ?_; rintro e w3 ⟨rfl, hb⟩)
        go_ret
        exact ⟨rfl, G2.below.trans (hb.mono G2.size)⟩
      have i1 : in32 dx := by unfold in32; omega
      have i2 : in32 dy := by unfold in32; omega
      have i3 : in32 (-dy) := by unfold in32; omega
      have i0 : in32 0 := by unfold in32; omega
      have m1 : IntKind.i32.wrap dx = dx := w32_in i1
      have m2 : IntKind.i32.wrap dy = dy := w32_in i2
      have m3 : IntKind.i32.wrap (-dy) = -dy := w32_in i3
      have m4 : wrap64 (-dy) = -dy := by unfold wrap64; omega
      clear hx hy hu hv cx cy cu cv
      go_upto_region 12 with (go_at_call 13; refine (HD.out _ _ _ _ _ (by assumption) (by assumption) (by assumption) (by assumption) G2).mono ?_; rintro e w3 ⟨rfl, g3⟩)
      have G3 := G2.trans g3
      go_upto_region 13 with (go_at_call 13; refine (HD.out _ _ _ _ _ (by assumption) (by assumption) (by assumption) (by assumption) G3).mono ?_; rintro e w4' ⟨rfl, g4⟩)
      have G4 := G3.trans g4
      have W4 := hid0 (WK'.out _ G4)
      clear HD WK' WW g3 g4 D1 D2
      go_wp2_with (go_at_call 15; refine W4.out.mono ?_; rintro e w5 ⟨rfl, hb⟩)
      go_ret
      exact ⟨rfl, G4.below.trans (hb.mono G4.size)⟩
end Go.Proofs.YtgdmbcfjjdngdaaDoor
