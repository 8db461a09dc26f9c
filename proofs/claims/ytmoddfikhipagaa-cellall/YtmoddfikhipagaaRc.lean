/- The reference's Column. -/
import Derived.Test.YtmoddfikhipagaaLn
set_option linter.unusedSimpArgs false
set_option linter.unusedVariables false
namespace Go.Proofs.Ytmoddfikhipagaa
open Go.RowKit Go.Sort

theorem up_eq (n d : Int) (hd : 1 ≤ d) : -((-n) / d) - 1 = (n - 1) / d := by
  have h1 := Int.emod_nonneg (-n) (show d ≠ 0 by omega)
  have h2 := Int.emod_lt_of_pos (-n) (show 0 < d by omega)
  have h3 := Int.mul_ediv_add_emod (-n) d
  symm
  apply Int.le_antisymm
  · have : (n - 1) / d < -((-n) / d) := by
      rw [Int.ediv_lt_iff_lt_mul (by omega), Int.neg_mul, Int.mul_comm]
      omega
    omega
  · rw [Int.le_ediv_iff_mul_le (by omega), Int.sub_mul, Int.neg_mul, Int.mul_comm]
    omega
theorem row_eq (a r d s : Int) (hd : 1 ≤ d) (hs : 1 ≤ s) : (a + r / d) / s = (a * d + r) / (d * s) := by
  have h : (a * d + r) / d / s = (a * d + r) / (d * s) := by rw [Int.ediv_ediv, if_neg (fun h => by omega)]; omega
  rw [← h, Int.add_comm (a * d) r, Int.add_mul_ediv_right _ _ (show d ≠ 0 by omega), Int.add_comm]

theorem w64_w64 (a : Int) : wrap64 (wrap64 a) = wrap64 a := by unfold wrap64; omega
set_option maxRecDepth 20000 in
set_option maxHeartbeats 8000000 in
theorem column_raw (px py qx qy s x dx dy L R B T V N1 T2 V2 N2 D F La lo hi : Int) (w : World)
    (w1 : wrap64 px = px) (w2 : wrap64 py = py) (w3 : wrap64 qx = qx) (w4 : wrap64 qy = qy)
    (e1 : wrap64 (qx - px) = dx) (e2 : wrap64 (qy - py) = dy) (e3 : wrap64 (x * s) = L) (e4 : wrap64 (L + s) = R) (e5 : wrap64 (py * dx) = B)
    (e6 : px < L → wrap64 (L - px) = T) (e7 : px < L → wrap64 (dy * T) = V) (e8 : px < L → wrap64 (B + V) = N1) (e9 : wrap64 (dx * s) = D)
    (e10 : R ≤ qx → wrap64 (R - px) = T2) (e11 : R ≤ qx → wrap64 (dy * T2) = V2) (e12 : R ≤ qx → wrap64 (B + V2) = N2)
    (hdx : ¬ dx = 0)
    (C1 : Hid (∀ w, Calls Try.prog 32 #[.int .i64 py, .int .i64 s] w fun e w' => e = .returned (.int .i64 (py / s)) ∧ w' = w))
    (C2 : Hid (∀ w, Calls Try.prog 32 #[.int .i64 qy, .int .i64 s] w fun e w' => e = .returned (.int .i64 (qy / s)) ∧ w' = w))
    (C3 : Hid (px < L → ∀ w, Calls Try.prog 32 #[.int .i64 N1, .int .i64 D] w fun e w' => e = .returned (.int .i64 F) ∧ w' = w))
    (C4 : Hid (R ≤ qx → ∀ w, Calls Try.prog 32 #[.int .i64 N2, .int .i64 D] w fun e w' => e = .returned (.int .i64 (N2 / D)) ∧ w' = w))
    (C5 : Hid (R ≤ qx → 0 < dy → ∀ w, Calls Try.prog 51 #[.int .i64 N2, .int .i64 D] w fun e w' => e = .returned (.int .i64 (La + 1)) ∧ w' = w))
    (hF : ¬ px < L → F = py / s) (hL1 : ¬ R ≤ qx → La = qy / s) (hL2 : R ≤ qx → dy = 0 → La = F) (hL3 : R ≤ qx → dy < 0 → La = N2 / D) (hw : wrap64 La = La)
    (hlo : F < La → lo = F ∧ hi = La) (hhi : ¬ F < La → lo = La ∧ hi = F) :
    Calls Try.prog 41 #[pt px py, pt qx qy, .int .i64 s, .int .i64 x] w fun e w' => e = .returned (.tuple #[.int .i64 lo, .int .i64 hi]) ∧ Gr w w' := by
  have HL := hid0 (And.intro hlo hhi)
  have H1 := hid0 (And.intro e6 (And.intro e7 e8))
  have H2 := hid0 (And.intro e10 (And.intro e11 e12))
  have H3 := hid0 hF
  have H4 := hid0 (And.intro hL1 (And.intro hL2 hL3))
  clear hlo hhi e6 e7 e8 e10 e11 e12 hF hL1 hL2 hL3
  have b4 := (Bk.new w 23 [.int .i32 px, .int .i32 py]).alloc (.cells #[.int .i32 qx, .int .i32 qy] 23)
  have b5 := Bk.new (w.alloc (.cells #[.int .i32 px, .int .i32 py] 23)) 23 [.int .i32 qx, .int .i32 qy]
  have g0 : Gr w ((w.alloc (.cells #[.int .i32 px, .int .i32 py] 23)).alloc (.cells #[.int .i32 qx, .int .i32 qy] 23)) := ((Gr.refl _).alloc _).alloc _
  rw [World.size_alloc] at b5
  go_enter Try.func41, Try.ntmps41
  go_upto_region 1 with fail
  generalize (w.alloc (.cells #[.int .i32 px, .int .i32 py] 23)).alloc (.cells #[.int .i32 qx, .int .i32 qy] 23) = W at *
  obtain ⟨p0, p1⟩ := b4.two
  obtain ⟨q0, q1⟩ := b5.two
  go_upto_region 12 with fail

  by_cases h1 : px < L
  · by_cases h2 : R ≤ qx
    · rcases Int.lt_trichotomy dy 0 with h3 | h3 | h3
      · obtain ⟨x1, x2, x3⟩ := H1.out
        replace x1 := x1 h1
        replace x2 := x2 h1
        replace x3 := x3 h1
        replace C3 := hid0 (C3.out h1)
        obtain ⟨y1, y2, y3⟩ := H2.out
        replace y1 := y1 h2
        replace y2 := y2 h2
        replace y3 := y3 h2
        replace C4 := hid0 (C4.out h2)
        have eL := H4.out.2.2 h2 h3
        have h4 : ¬ 0 < dy := by omega
        have h5 : ¬ dy = 0 := by omega
        clear hw
        by_cases hlt : F < La
        · obtain ⟨rfl, rfl⟩ := HL.out.1 hlt
          rw [eL] at hlt
          subst eL
          clear H1 H2 H3 H4 HL
          go_wp2_with (first
            | (go_at_call 32; refine (C1.out _).mono ?_; rintro e w9 ⟨rfl, rfl⟩; clear C1)
            | (go_at_call 32; refine (C3.out _).mono ?_; rintro e w9 ⟨rfl, rfl⟩; clear C3)
            | (go_at_call 32; refine (C2.out _).mono ?_; rintro e w9 ⟨rfl, rfl⟩; clear C2)
            | (go_at_call 32; refine (C4.out _).mono ?_; rintro e w9 ⟨rfl, rfl⟩; clear C4))
          go_ret2
          first | exact ⟨rfl, g0⟩ | exact ⟨by simp [hw], g0⟩
        · obtain ⟨rfl, rfl⟩ := HL.out.2 hlt
          rw [eL] at hlt
          subst eL
          clear H1 H2 H3 H4 HL
          go_wp2_with (first
            | (go_at_call 32; refine (C1.out _).mono ?_; rintro e w9 ⟨rfl, rfl⟩; clear C1)
            | (go_at_call 32; refine (C3.out _).mono ?_; rintro e w9 ⟨rfl, rfl⟩; clear C3)
            | (go_at_call 32; refine (C2.out _).mono ?_; rintro e w9 ⟨rfl, rfl⟩; clear C2)
            | (go_at_call 32; refine (C4.out _).mono ?_; rintro e w9 ⟨rfl, rfl⟩; clear C4))
          go_ret2
          first | exact ⟨rfl, g0⟩ | exact ⟨by simp [hw], g0⟩
      · obtain ⟨x1, x2, x3⟩ := H1.out
        replace x1 := x1 h1
        replace x2 := x2 h1
        replace x3 := x3 h1
        replace C3 := hid0 (C3.out h1)
        obtain ⟨y1, y2, y3⟩ := H2.out
        replace y1 := y1 h2
        replace y2 := y2 h2
        replace y3 := y3 h2
        replace C4 := hid0 (C4.out h2)
        have eL := H4.out.2.1 h2 h3
        have hb : (dy == 0) = true := by rw [h3]; rfl
        have h4 : ¬ 0 < dy := by omega
        clear h3
        clear hw
        by_cases hlt : F < La
        · exfalso; omega
        · obtain ⟨rfl, rfl⟩ := HL.out.2 hlt
          rw [eL] at hlt
          subst eL
          clear H1 H2 H3 H4 HL
          go_wp2_with (first
            | (go_at_call 32; refine (C1.out _).mono ?_; rintro e w9 ⟨rfl, rfl⟩; clear C1)
            | (go_at_call 32; refine (C3.out _).mono ?_; rintro e w9 ⟨rfl, rfl⟩; clear C3)
            | (go_at_call 32; refine (C2.out _).mono ?_; rintro e w9 ⟨rfl, rfl⟩; clear C2)
            | (go_at_call 32; refine (C4.out _).mono ?_; rintro e w9 ⟨rfl, rfl⟩; clear C4))
          go_ret2
          first | exact ⟨rfl, g0⟩ | exact ⟨by simp [hw], g0⟩
      · obtain ⟨x1, x2, x3⟩ := H1.out
        replace x1 := x1 h1
        replace x2 := x2 h1
        replace x3 := x3 h1
        replace C3 := hid0 (C3.out h1)
        obtain ⟨y1, y2, y3⟩ := H2.out
        replace y1 := y1 h2
        replace y2 := y2 h2
        replace y3 := y3 h2
        replace C4 := hid0 (C4.out h2)
        replace C5 := hid0 (C5.out h2 h3)
        have h4 : ¬ dy = 0 := by omega
        by_cases hlt : F < La
        · obtain ⟨rfl, rfl⟩ := HL.out.1 hlt
          clear H1 H2 H3 H4 HL
          go_wp2_with (first
            | (go_at_call 32; refine (C1.out _).mono ?_; rintro e w9 ⟨rfl, rfl⟩; clear C1)
            | (go_at_call 32; refine (C3.out _).mono ?_; rintro e w9 ⟨rfl, rfl⟩; clear C3)
            | (go_at_call 32; refine (C2.out _).mono ?_; rintro e w9 ⟨rfl, rfl⟩; clear C2)
            | (go_at_call 32; refine (C4.out _).mono ?_; rintro e w9 ⟨rfl, rfl⟩; clear C4)
            | (go_at_call 51; refine (C5.out _).mono ?_; rintro e w9 ⟨rfl, rfl⟩; clear C5))
          go_ret2
          first | exact ⟨rfl, g0⟩ | exact ⟨by simp [hw], g0⟩
        · obtain ⟨rfl, rfl⟩ := HL.out.2 hlt
          clear H1 H2 H3 H4 HL
          go_wp2_with (first
            | (go_at_call 32; refine (C1.out _).mono ?_; rintro e w9 ⟨rfl, rfl⟩; clear C1)
            | (go_at_call 32; refine (C3.out _).mono ?_; rintro e w9 ⟨rfl, rfl⟩; clear C3)
            | (go_at_call 32; refine (C2.out _).mono ?_; rintro e w9 ⟨rfl, rfl⟩; clear C2)
            | (go_at_call 32; refine (C4.out _).mono ?_; rintro e w9 ⟨rfl, rfl⟩; clear C4)
            | (go_at_call 51; refine (C5.out _).mono ?_; rintro e w9 ⟨rfl, rfl⟩; clear C5))
          go_ret2
          first | exact ⟨rfl, g0⟩ | exact ⟨by simp [hw], g0⟩
    · obtain ⟨x1, x2, x3⟩ := H1.out
      replace x1 := x1 h1
      replace x2 := x2 h1
      replace x3 := x3 h1
      replace C3 := hid0 (C3.out h1)
      have eL := H4.out.1 h2
      clear hw
      by_cases hlt : F < La
      · obtain ⟨rfl, rfl⟩ := HL.out.1 hlt
        rw [eL] at hlt
        subst eL
        clear H1 H2 H3 H4 HL
        go_wp2_with (first
          | (go_at_call 32; refine (C1.out _).mono ?_; rintro e w9 ⟨rfl, rfl⟩; clear C1)
          | (go_at_call 32; refine (C3.out _).mono ?_; rintro e w9 ⟨rfl, rfl⟩; clear C3)
          | (go_at_call 32; refine (C2.out _).mono ?_; rintro e w9 ⟨rfl, rfl⟩; clear C2))
        go_ret2
        first | exact ⟨rfl, g0⟩ | exact ⟨by simp [hw], g0⟩
      · obtain ⟨rfl, rfl⟩ := HL.out.2 hlt
        rw [eL] at hlt
        subst eL
        clear H1 H2 H3 H4 HL
        go_wp2_with (first
          | (go_at_call 32; refine (C1.out _).mono ?_; rintro e w9 ⟨rfl, rfl⟩; clear C1)
          | (go_at_call 32; refine (C3.out _).mono ?_; rintro e w9 ⟨rfl, rfl⟩; clear C3)
          | (go_at_call 32; refine (C2.out _).mono ?_; rintro e w9 ⟨rfl, rfl⟩; clear C2))
        go_ret2
        first | exact ⟨rfl, g0⟩ | exact ⟨by simp [hw], g0⟩
  · by_cases h2 : R ≤ qx
    · rcases Int.lt_trichotomy dy 0 with h3 | h3 | h3
      · have eF := H3.out h1
        subst eF
        obtain ⟨y1, y2, y3⟩ := H2.out
        replace y1 := y1 h2
        replace y2 := y2 h2
        replace y3 := y3 h2
        replace C4 := hid0 (C4.out h2)
        have eL := H4.out.2.2 h2 h3
        have h4 : ¬ 0 < dy := by omega
        have h5 : ¬ dy = 0 := by omega
        clear hw
        by_cases hlt : py / s < La
        · obtain ⟨rfl, rfl⟩ := HL.out.1 hlt
          rw [eL] at hlt
          subst eL
          clear H1 H2 H3 H4 HL
          go_wp2_with (first
            | (go_at_call 32; refine (C1.out _).mono ?_; rintro e w9 ⟨rfl, rfl⟩; clear C1)
            | (go_at_call 32; refine (C2.out _).mono ?_; rintro e w9 ⟨rfl, rfl⟩; clear C2)
            | (go_at_call 32; refine (C4.out _).mono ?_; rintro e w9 ⟨rfl, rfl⟩; clear C4))
          go_ret2
          first | exact ⟨rfl, g0⟩ | exact ⟨by simp [hw], g0⟩
        · obtain ⟨rfl, rfl⟩ := HL.out.2 hlt
          rw [eL] at hlt
          subst eL
          clear H1 H2 H3 H4 HL
          go_wp2_with (first
            | (go_at_call 32; refine (C1.out _).mono ?_; rintro e w9 ⟨rfl, rfl⟩; clear C1)
            | (go_at_call 32; refine (C2.out _).mono ?_; rintro e w9 ⟨rfl, rfl⟩; clear C2)
            | (go_at_call 32; refine (C4.out _).mono ?_; rintro e w9 ⟨rfl, rfl⟩; clear C4))
          go_ret2
          first | exact ⟨rfl, g0⟩ | exact ⟨by simp [hw], g0⟩
      · have eF := H3.out h1
        subst eF
        obtain ⟨y1, y2, y3⟩ := H2.out
        replace y1 := y1 h2
        replace y2 := y2 h2
        replace y3 := y3 h2
        replace C4 := hid0 (C4.out h2)
        have eL := H4.out.2.1 h2 h3
        have hb : (dy == 0) = true := by rw [h3]; rfl
        have h4 : ¬ 0 < dy := by omega
        clear h3
        clear hw
        by_cases hlt : py / s < La
        · exfalso; omega
        · obtain ⟨rfl, rfl⟩ := HL.out.2 hlt
          rw [eL] at hlt
          subst eL
          clear H1 H2 H3 H4 HL
          go_wp2_with (first
            | (go_at_call 32; refine (C1.out _).mono ?_; rintro e w9 ⟨rfl, rfl⟩; clear C1)
            | (go_at_call 32; refine (C2.out _).mono ?_; rintro e w9 ⟨rfl, rfl⟩; clear C2)
            | (go_at_call 32; refine (C4.out _).mono ?_; rintro e w9 ⟨rfl, rfl⟩; clear C4))
          go_ret2
          first | exact ⟨rfl, g0⟩ | exact ⟨by simp [hw], g0⟩
      · have eF := H3.out h1
        subst eF
        obtain ⟨y1, y2, y3⟩ := H2.out
        replace y1 := y1 h2
        replace y2 := y2 h2
        replace y3 := y3 h2
        replace C4 := hid0 (C4.out h2)
        replace C5 := hid0 (C5.out h2 h3)
        have h4 : ¬ dy = 0 := by omega
        by_cases hlt : py / s < La
        · obtain ⟨rfl, rfl⟩ := HL.out.1 hlt
          clear H1 H2 H3 H4 HL
          go_wp2_with (first
            | (go_at_call 32; refine (C1.out _).mono ?_; rintro e w9 ⟨rfl, rfl⟩; clear C1)
            | (go_at_call 32; refine (C2.out _).mono ?_; rintro e w9 ⟨rfl, rfl⟩; clear C2)
            | (go_at_call 32; refine (C4.out _).mono ?_; rintro e w9 ⟨rfl, rfl⟩; clear C4)
            | (go_at_call 51; refine (C5.out _).mono ?_; rintro e w9 ⟨rfl, rfl⟩; clear C5))
          go_ret2
          first | exact ⟨rfl, g0⟩ | exact ⟨by simp [hw], g0⟩
        · obtain ⟨rfl, rfl⟩ := HL.out.2 hlt
          clear H1 H2 H3 H4 HL
          go_wp2_with (first
            | (go_at_call 32; refine (C1.out _).mono ?_; rintro e w9 ⟨rfl, rfl⟩; clear C1)
            | (go_at_call 32; refine (C2.out _).mono ?_; rintro e w9 ⟨rfl, rfl⟩; clear C2)
            | (go_at_call 32; refine (C4.out _).mono ?_; rintro e w9 ⟨rfl, rfl⟩; clear C4)
            | (go_at_call 51; refine (C5.out _).mono ?_; rintro e w9 ⟨rfl, rfl⟩; clear C5))
          go_ret2
          first | exact ⟨rfl, g0⟩ | exact ⟨by simp [hw], g0⟩
    · have eF := H3.out h1
      subst eF
      have eL := H4.out.1 h2
      clear hw
      by_cases hlt : py / s < La
      · obtain ⟨rfl, rfl⟩ := HL.out.1 hlt
        rw [eL] at hlt
        subst eL
        clear H1 H2 H3 H4 HL
        go_wp2_with (first
          | (go_at_call 32; refine (C1.out _).mono ?_; rintro e w9 ⟨rfl, rfl⟩; clear C1)
          | (go_at_call 32; refine (C2.out _).mono ?_; rintro e w9 ⟨rfl, rfl⟩; clear C2))
        go_ret2
        first | exact ⟨rfl, g0⟩ | exact ⟨by simp [hw], g0⟩
      · obtain ⟨rfl, rfl⟩ := HL.out.2 hlt
        rw [eL] at hlt
        subst eL
        clear H1 H2 H3 H4 HL
        go_wp2_with (first
          | (go_at_call 32; refine (C1.out _).mono ?_; rintro e w9 ⟨rfl, rfl⟩; clear C1)
          | (go_at_call 32; refine (C2.out _).mono ?_; rintro e w9 ⟨rfl, rfl⟩; clear C2))
        go_ret2
        first | exact ⟨rfl, g0⟩ | exact ⟨by simp [hw], g0⟩
end Go.Proofs.Ytmoddfikhipagaa
