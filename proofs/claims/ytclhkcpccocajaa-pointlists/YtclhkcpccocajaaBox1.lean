/- Contracts of the program's Meet and Join, and of the reference's Right, Has, Meet. -/
import Derived.Test.YtclhkcpccocajaaPt3
namespace Go.Proofs.Ytclhkcpccocajaa
open Go.RowKit Go.Sort

theorem rright_any (a b c d : Int) (w : World) :
    Calls Try.prog 27 #[bx a b c d] w fun e w' => e = .returned (.bool (rightB a b c d)) ∧ Gr w w' := by
  by_cases h : a ≤ c
  · have e : rightB a b c d = decide (b ≤ d) := by unfold rightB; simp [h]
    rw [e]; clear e
    go_enter Try.func27, Try.ntmps27
    go_wp2
    go_ret
    exact ⟨rfl, (Gr.refl _).alloc _⟩
  · have e : rightB a b c d = false := by unfold rightB; simp only [h, decide_false, Bool.false_and]
    rw [e]; clear e
    go_enter Try.func27, Try.ntmps27
    go_wp2
    go_ret
    exact ⟨rfl, (Gr.refl _).alloc _⟩

set_option maxHeartbeats 1000000 in
theorem rhas_any (a b c d x y : Int) (w : World) :
    Calls Try.prog 29 #[bx a b c d, pt x y] w fun e w' => e = .returned (.bool (hasB a b c d x y)) ∧ Gr w w' := by
  by_cases h0 : a ≤ x
  · by_cases h1 : x ≤ c
    · by_cases h2 : b ≤ y
      · have e : hasB a b c d x y = decide (y ≤ d) := by unfold hasB rightB; simp [h0, h1, h2]
        rw [e]; clear e
        go_enter Try.func29, Try.ntmps29
        go_wp2
        go_ret
        exact ⟨rfl, ((Gr.refl _).alloc _).alloc _⟩
      · have e : hasB a b c d x y = false := by unfold hasB rightB; grind
        rw [e]; clear e
        go_enter Try.func29, Try.ntmps29
        go_wp2
        go_ret
        exact ⟨rfl, ((Gr.refl _).alloc _).alloc _⟩
    · have e : hasB a b c d x y = false := by unfold hasB rightB; grind
      rw [e]; clear e
      go_enter Try.func29, Try.ntmps29
      go_wp2
      go_ret
      exact ⟨rfl, ((Gr.refl _).alloc _).alloc _⟩
  · have e : hasB a b c d x y = false := by unfold hasB rightB; grind
    rw [e]; clear e
    go_enter Try.func29, Try.ntmps29
    go_wp2
    go_ret
    exact ⟨rfl, ((Gr.refl _).alloc _).alloc _⟩

/-- Eight cells of two boxes. -/
structure BoxesAre (W : World) (b : Nat) (a0 a1 a2 a3 b0 b1 b2 b3 : Int) : Prop where
  c0 : W.cell? ⟨b, 0, none⟩ = some (.int .i32 a0)
  c1 : W.cell? ⟨b, 1, none⟩ = some (.int .i32 a1)
  c2 : W.cell? ⟨b, 2, none⟩ = some (.int .i32 a2)
  c3 : W.cell? ⟨b, 3, none⟩ = some (.int .i32 a3)
  c4 : W.cell? ⟨b + 1, 0, none⟩ = some (.int .i32 b0)
  c5 : W.cell? ⟨b + 1, 1, none⟩ = some (.int .i32 b1)
  c6 : W.cell? ⟨b + 1, 2, none⟩ = some (.int .i32 b2)
  c7 : W.cell? ⟨b + 1, 3, none⟩ = some (.int .i32 b3)
theorem BoxesAre.gr {W W' : World} {b : Nat} {a0 a1 a2 a3 b0 b1 b2 b3 : Int} (h : BoxesAre W b a0 a1 a2 a3 b0 b1 b2 b3) (g : Below W.heap.size W W') : BoxesAre W' b a0 a1 a2 a3 b0 b1 b2 b3 :=
  ⟨below_cell h.c0 g, below_cell h.c1 g, below_cell h.c2 g, below_cell h.c3 g, below_cell h.c4 g, below_cell h.c5 g, below_cell h.c6 g, below_cell h.c7 g⟩
theorem BoxesAre.new (w : World) (a0 a1 a2 a3 b0 b1 b2 b3 : Int) : BoxesAre ((w.alloc (.cells #[.int .i32 a0, .int .i32 a1, .int .i32 a2, .int .i32 a3] 35)).alloc (.cells #[.int .i32 b0, .int .i32 b1, .int .i32 b2, .int .i32 b3] 35)) w.heap.size a0 a1 a2 a3 b0 b1 b2 b3 :=
  ⟨by go_simp, by go_simp, by go_simp, by go_simp, by go_simp, by go_simp, by go_simp, by go_simp⟩

/-- Whether two boxes meet. -/
def meetB (a0 a1 a2 a3 b0 b1 b2 b3 : Int) : Bool := rightB (maxI a0 b0) (maxI a1 b1) (minI a2 b2) (minI a3 b3)
set_option maxRecDepth 20000 in
set_option maxHeartbeats 1000000 in
theorem meet_any (a0 a1 a2 a3 b0 b1 b2 b3 : Int) (w : World) :
    Calls Try.prog 30 #[bx a0 a1 a2 a3, bx b0 b1 b2 b3] w fun e w' => e = .returned (.bool (meetB a0 a1 a2 a3 b0 b1 b2 b3)) ∧ Gr w w' := by
  have E : Hid (meetB a0 a1 a2 a3 b0 b1 b2 b3 = rightB (maxI a0 b0) (maxI a1 b1) (minI a2 b2) (minI a3 b3)) := rfl
  go_enter Try.func30, Try.ntmps30
  go_wp2
  have hG : Gr w ((w.alloc (.cells #[.int .i32 a0, .int .i32 a1, .int .i32 a2, .int .i32 a3] 35)).alloc (.cells #[.int .i32 b0, .int .i32 b1, .int .i32 b2, .int .i32 b3] 35)) := ((Gr.refl _).alloc _).alloc _
  have F := BoxesAre.new w a0 a1 a2 a3 b0 b1 b2 b3
  generalize (w.alloc (.cells #[.int .i32 a0, .int .i32 a1, .int .i32 a2, .int .i32 a3] 35)).alloc (.cells #[.int .i32 b0, .int .i32 b1, .int .i32 b2, .int .i32 b3] 35) = W at *
  have x0 := cell_gr F.c0
  have x1 := cell_gr F.c1
  have x2 := cell_gr F.c2
  have x3 := cell_gr F.c3
  have x4 := cell_gr F.c4
  have x5 := cell_gr F.c5
  have x6 := cell_gr F.c6
  have x7 := cell_gr F.c7
  refine wp_region_quiet_grown (by kernel_rfl) (by kernel_rfl) ?_
  repeat (go_big_quiet_step (first
    | (go_at_call 56; exact Calls.grown_of (upper_any _ _ _ _ _))
    | (go_at_call 57; exact Calls.grown_of (lower_any _ _ _ _ _))
    | (go_at_call 26; exact Calls.grown_of (right_any _ _ _ _ _))))
  refine wpQuiet_nil ?_
  intro _ hw'
  obtain ⟨⟨nq, osq⟩, hw''⟩ := hw'
  subst hw''
  go_wp2
  go_ret
  exact ⟨by rw [E.out]; rfl, hG.trans ⟨nq, osq, rfl⟩⟩

theorem meet_apart (a0 a1 a2 a3 b0 b1 b2 b3 : Int) : meetB a0 a1 a2 a3 b0 b1 b2 b3 = (rightB a0 a1 a2 a3 && rightB b0 b1 b2 b3 && !(decide (a2 < b0) || decide (b2 < a0) || decide (a3 < b1) || decide (b3 < a1))) := by
  unfold meetB rightB maxI minI
  grind

set_option maxRecDepth 20000 in
set_option maxHeartbeats 2000000 in
theorem rmeet_any (a0 a1 a2 a3 b0 b1 b2 b3 : Int) (w : World) :
    Calls Try.prog 31 #[bx a0 a1 a2 a3, bx b0 b1 b2 b3] w fun e w' => e = .returned (.bool (meetB a0 a1 a2 a3 b0 b1 b2 b3)) ∧ Gr w w' := by
  have E : Hid (meetB a0 a1 a2 a3 b0 b1 b2 b3 = (rightB a0 a1 a2 a3 && rightB b0 b1 b2 b3 && !(decide (a2 < b0) || decide (b2 < a0) || decide (a3 < b1) || decide (b3 < a1)))) := meet_apart a0 a1 a2 a3 b0 b1 b2 b3
  have R1 : Hid (∀ w, Calls Try.prog 27 #[bx a0 a1 a2 a3] w fun e w' => e = .returned (.bool (rightB a0 a1 a2 a3)) ∧ Gr w w') := rright_any a0 a1 a2 a3
  have R2 : Hid (∀ w, Calls Try.prog 27 #[bx b0 b1 b2 b3] w fun e w' => e = .returned (.bool (rightB b0 b1 b2 b3)) ∧ Gr w w') := rright_any b0 b1 b2 b3
  generalize rightB a0 a1 a2 a3 = r1 at *
  generalize rightB b0 b1 b2 b3 = r2 at *
  have C5 : (decide (a2 < b0) = true ∧ decide (a2 < b0) = true ∧ decide (a2 < b0) = true ∧ decide (a2 < b0) = true ∧ (decide (a2 < b0) || decide (b2 < a0) || decide (a3 < b1) || decide (b3 < a1)) = true) ∨ (decide (a2 < b0) = false ∧ decide (b2 < a0) = true ∧ decide (b2 < a0) = true ∧ decide (b2 < a0) = true ∧ (decide (a2 < b0) || decide (b2 < a0) || decide (a3 < b1) || decide (b3 < a1)) = true) ∨ (decide (a2 < b0) = false ∧ decide (b2 < a0) = false ∧ decide (a3 < b1) = true ∧ decide (a3 < b1) = true ∧ (decide (a2 < b0) || decide (b2 < a0) || decide (a3 < b1) || decide (b3 < a1)) = true) ∨ (decide (a2 < b0) = false ∧ decide (b2 < a0) = false ∧ decide (a3 < b1) = false ∧ decide (a3 < b1) = false ∧ (decide (a2 < b0) || decide (b2 < a0) || decide (a3 < b1) || decide (b3 < a1)) = decide (b3 < a1)) := by
    cases decide (a2 < b0) <;> cases decide (b2 < a0) <;> cases decide (a3 < b1) <;> simp
  go_enter Try.func31, Try.ntmps31
  go_upto_region 1 with fail
  have hG : Gr w ((w.alloc (.cells #[.int .i32 a0, .int .i32 a1, .int .i32 a2, .int .i32 a3] 35)).alloc (.cells #[.int .i32 b0, .int .i32 b1, .int .i32 b2, .int .i32 b3] 35)) := ((Gr.refl _).alloc _).alloc _
  have F := BoxesAre.new w a0 a1 a2 a3 b0 b1 b2 b3
  generalize (w.alloc (.cells #[.int .i32 a0, .int .i32 a1, .int .i32 a2, .int .i32 a3] 35)).alloc (.cells #[.int .i32 b0, .int .i32 b1, .int .i32 b2, .int .i32 b3] 35) = W at *
  have x0 := F.c0
  have x1 := F.c1
  have x2 := F.c2
  have x3 := F.c3
  have x4 := F.c4
  have x5 := F.c5
  have x6 := F.c6
  have x7 := F.c7
  go_cut [5] (fun s w' => s = .bool (decide (a2 < b0) || decide (b2 < a0) || decide (a3 < b1) || decide (b3 < a1)) ∧ w' = W)
  case first =>
    rcases C5 with ⟨d0, d1, d2, d3, d4⟩ | ⟨d0, d1, d2, d3, d4⟩ | ⟨d0, d1, d2, d3, d4⟩ | ⟨d0, d1, d2, d3, d4⟩
    all_goals
      replace d4 : Hid _ := d4
      go_wp2
      go_meet
      case rel => exact ⟨by rw [d4.out], rfl⟩
  case rest =>
    obtain ⟨rfl, rfl⟩ := hcut
    clear C5
    generalize (decide (a2 < b0) || decide (b2 < a0) || decide (a3 < b1) || decide (b3 < a1)) = ap at *
    go_wp2_with fail
    refine (R1.out _).mono ?_
    rintro e v1 ⟨rfl, g1⟩
    replace hG := hG.trans g1
    replace F := F.gr g1.below
    clear x0 x1 x2 x3 x4 x5 x6 x7
    have x4 := F.c4
    have x5 := F.c5
    have x6 := F.c6
    have x7 := F.c7
    cases r1 with
    | false =>
      go_wp2
      go_ret
      exact ⟨by rw [E.out]; rfl, hG⟩
    | true =>
      go_wp2_with fail
      refine (R2.out _).mono ?_
      rintro e v2 ⟨rfl, g2⟩
      cases r2 with
      | false =>
        go_wp2
        go_ret
        exact ⟨by rw [E.out]; rfl, hG.trans g2⟩
      | true =>
        go_wp2
        go_ret
        exact ⟨by rw [E.out]; rfl, hG.trans g2⟩
end Go.Proofs.Ytclhkcpccocajaa
