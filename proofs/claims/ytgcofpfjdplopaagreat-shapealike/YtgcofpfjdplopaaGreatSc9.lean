/- What is wrong with a disc, a box, a corridor: shape's own checks. -/
import Derived.Test.YtgcofpfjdplopaaGreatSm9
namespace Go.Proofs.YtgcofpfjdplopaaGreat
section
set_option linter.unusedSimpArgs false
open Go.RowKit Go.Sort

/-- Whether a shape has what its kind has no field for: its kind, how many points, how many holes, its size. -/
def forB (k : Int) (m n : Nat) (s : Int) : Bool :=
  if k = 1 then decide (s ≠ 0) else if k = 2 then decide (0 < n) || decide (m ≠ 1) else if k = 3 then decide (0 < n) || decide (s ≠ 0) || decide (m ≠ 2) else decide (0 < n)
set_option maxRecDepth 20000 in
set_option maxHeartbeats 8000000 in
theorem foreign_any (k : Int) (vo ho : Option Addr) (m n vc hc : Nat) (s : Int) (hm : m ≤ 17592186043904) (hn : n ≤ 17592186043904) (w : World) : Calls Tryz.prog 39 #[.agg #[.int .u8 k, .slice vo m vc, .slice ho n hc, .int .i32 s]] w fun e w' => e = .returned (.bool (forB k m n s)) ∧ Gr w w' := by
  have CN : ((¬ (0 : Int) < (n : Int)) ∧ decide (0 < n) = false) ∨ ((0 : Int) < (n : Int) ∧ decide (0 < n) = true) := by
    by_cases h : 0 < n
    · exact .inr ⟨by omega, decide_eq_true h⟩
    · exact .inl ⟨by omega, decide_eq_false h⟩
  have CS : (s = 0 ∧ decide (s ≠ 0) = false) ∨ ((¬ s = 0 ∧ (s == 0) = false ∧ (s != 0) = true) ∧ decide (s ≠ 0) = true) := by
    by_cases h : s = 0
    · exact .inl ⟨h, by simp [h]⟩
    · exact .inr ⟨⟨h, beq_eq_false_iff_ne.2 h, by simpa using h⟩, by simpa using h⟩
  unfold forB
  by_cases k1 : k = 1
  · subst k1
    simp only [if_true]
    rcases CS with ⟨rfl, e⟩ | ⟨⟨b1, b2, b3⟩, e⟩
    all_goals
      rw [e]
      clear CN
      go_enter Tryz.func39, Tryz.ntmps39
      go_wp2
      go_ret
      exact ⟨rfl, (Gr.refl _).alloc _⟩
  · have k1' : (k == 1) = false := beq_eq_false_iff_ne.2 k1
    rw [if_neg k1]
    by_cases k2 : k = 2
    · subst k2
      simp only [if_true]
      have CM : (m = 1 ∧ decide (m ≠ 1) = false) ∨ ((¬ (m : Int) = 1 ∧ ((m : Int) == 1) = false ∧ ((m : Int) != 1) = true) ∧ decide (m ≠ 1) = true) := by
        by_cases h : m = 1
        · exact .inl ⟨h, by simp [h]⟩
        · have h' : ¬ (m : Int) = 1 := by omega
          exact .inr ⟨⟨h', beq_eq_false_iff_ne.2 h', by simpa using h'⟩, by simpa using h⟩
      clear CS
      rcases CN with ⟨a, e1⟩ | ⟨a, e1⟩ <;> rcases CM with ⟨rfl, e2⟩ | ⟨⟨b1, b2, b3⟩, e2⟩
      all_goals
        rw [e1, e2]
        go_enter Tryz.func39, Tryz.ntmps39
        go_wp2
        go_ret
        exact ⟨rfl, (Gr.refl _).alloc _⟩
    · have k2' : (k == 2) = false := beq_eq_false_iff_ne.2 k2
      rw [if_neg k2]
      by_cases k3 : k = 3
      · subst k3
        simp only [if_true]
        have CM : (m = 2 ∧ decide (m ≠ 2) = false) ∨ ((¬ (m : Int) = 2 ∧ ((m : Int) == 2) = false ∧ ((m : Int) != 2) = true) ∧ decide (m ≠ 2) = true) := by
          by_cases h : m = 2
          · exact .inl ⟨h, by simp [h]⟩
          · have h' : ¬ (m : Int) = 2 := by omega
            exact .inr ⟨⟨h', beq_eq_false_iff_ne.2 h', by simpa using h'⟩, by simpa using h⟩
        rcases CN with ⟨a, e1⟩ | ⟨a, e1⟩ <;> rcases CM with ⟨rfl, e2⟩ | ⟨⟨b1, b2, b3⟩, e2⟩ <;> rcases CS with ⟨rfl, e3⟩ | ⟨⟨c1, c2, c3⟩, e3⟩
        all_goals
          rw [e1, e2, e3]
          go_enter Tryz.func39, Tryz.ntmps39
          go_wp2
          go_ret
          exact ⟨rfl, (Gr.refl _).alloc _⟩
      · have k3' : (k == 3) = false := beq_eq_false_iff_ne.2 k3
        rw [if_neg k3]
        rcases CN with ⟨a, e1⟩ | ⟨a, e1⟩
        all_goals
          rw [e1]
          clear CS
          go_enter Tryz.func39, Tryz.ntmps39
          go_wp2
          go_ret
          exact ⟨rfl, (Gr.refl _).alloc _⟩
def sizeF (s : Int) : Int := if s < 0 ∨ 1073741823 < s then 92 else 0
theorem sizeF_any (s : Int) (w : World) : Calls Tryz.prog 81 #[.int .i32 s] w fun e w' => e = .returned (.int .i64 (sizeF s)) ∧ w' = w := by
  unfold sizeF
  by_cases h0 : s < 0
  · rw [if_pos (.inl h0)]
    go_enter Tryz.func81, Tryz.ntmps81
    go_wp2
    go_ret
    exact ⟨rfl, rfl⟩
  · by_cases h1 : 1073741823 < s
    · rw [if_pos (.inr h1)]
      go_enter Tryz.func81, Tryz.ntmps81
      go_wp2
      go_ret
      exact ⟨rfl, rfl⟩
    · rw [if_neg (by omega)]
      go_enter Tryz.func81, Tryz.ntmps81
      go_wp2
      go_ret
      exact ⟨rfl, rfl⟩
def discF (p : Int × Int) (s : Int) : Int := if latP p = true then sizeF s else 61
set_option maxRecDepth 20000 in
set_option maxHeartbeats 4000000 in
theorem discF_any (p : Int × Int) (s : Int) (w : World) : Calls Tryz.prog 41 #[pt p.1 p.2, .int .i32 s] w fun e w' => e = .returned (.int .i64 (discF p s)) ∧ Gr w w' := by
  have I := fun w => hid' (in_any p.1 p.2 w)
  have e : latP p = (latB p.1 && latB p.2) := rfl
  unfold discF
  rw [e]
  clear e
  cases h : (latB p.1 && latB p.2) with
  | true =>
    rw [h] at I
    simp only [if_true]
    go_enter Tryz.func41, Tryz.ntmps41
    go_wp2_with (first
      | (go_at_call 80; refine (I _).out.mono ?_; rintro e w1 ⟨rfl, g1⟩)
      | (go_at_call 81; refine (sizeF_any s _).mono ?_; rintro e w2 ⟨rfl, rfl⟩))
    go_ret
    exact ⟨rfl, ((Gr.refl _).alloc _).trans g1⟩
  | false =>
    rw [h] at I
    simp only [Bool.false_eq_true, if_false]
    go_enter Tryz.func41, Tryz.ntmps41
    go_wp2_with (go_at_call 80; refine (I _).out.mono ?_; rintro e w1 ⟨rfl, g1⟩)
    go_ret
    exact ⟨rfl, ((Gr.refl _).alloc _).trans g1⟩
def rectF (p q : Int × Int) : Int := if (latP p && latP q) = true then (if rightB p.1 p.2 q.1 q.2 = true then 0 else 93) else 61
set_option maxRecDepth 20000 in
set_option maxHeartbeats 4000000 in
theorem rectF_any (p q : Int × Int) (w : World) : Calls Tryz.prog 42 #[pt p.1 p.2, pt q.1 q.2] w fun e w' => e = .returned (.int .i64 (rectF p q)) ∧ Gr w w' := by
  have I1 : ∀ w, Hid (Calls Tryz.prog 80 #[pt p.1 p.2] w fun e w' => e = .returned (.bool (latP p)) ∧ Gr w w') := fun w => in_any p.1 p.2 w
  have I2 : ∀ w, Hid (Calls Tryz.prog 80 #[pt q.1 q.2] w fun e w' => e = .returned (.bool (latP q)) ∧ Gr w w') := fun w => in_any q.1 q.2 w
  have R := fun w => hid' (right_any p.1 p.2 q.1 q.2 w)
  obtain ⟨k1, k2, g⟩ := two_new w 28 28 #[.int .i32 p.1, .int .i32 p.2] #[.int .i32 q.1, .int .i32 q.2]
  unfold rectF
  generalize rightB p.1 p.2 q.1 q.2 = B3 at *
  generalize latP p = B1 at *
  generalize latP q = B2 at *
  generalize p.1 = px at *
  generalize p.2 = py at *
  generalize q.1 = qx at *
  generalize q.2 = qy at *
  cases B1 with
  | false =>
    simp only [Bool.false_and, Bool.false_eq_true, if_false]
    go_enter Tryz.func42, Tryz.ntmps42
    go_wp2_with (go_at_call 80; refine (I1 _).out.mono ?_; rintro e w1 ⟨rfl, g1⟩)
    go_ret
    exact ⟨rfl, g.trans g1⟩
  | true =>
    cases B2 with
    | false =>
      simp only [Bool.and_false, Bool.false_eq_true, if_false]
      go_enter Tryz.func42, Tryz.ntmps42
      go_wp2_with (first
        | (go_at_call 80; have _ := g1; refine (I2 _).out.mono ?_; rintro e w2 ⟨rfl, g2⟩)
        | (go_at_call 80; refine (I1 _).out.mono ?_; rintro e w1 ⟨rfl, g1⟩; obtain ⟨y0, y1, _, _⟩ := (k2.gr g1).two))
      go_ret
      exact ⟨rfl, (g.trans g1).trans g2⟩
    | true =>
      simp only [Bool.and_self, if_true]
      cases B3
      all_goals
        simp only [Bool.false_eq_true, if_false, if_true]
        go_enter Tryz.func42, Tryz.ntmps42
        go_wp2_with (first
          | (go_at_call 82; refine (R _).out.mono ?_; rintro e w3 ⟨rfl, g3⟩)
          | (go_at_call 80; have _ := g1; refine (I2 _).out.mono ?_; rintro e w2 ⟨rfl, g2⟩; have g12 := g1.trans g2; obtain ⟨x0, x1, _, _⟩ := (k1.gr g12).two; obtain ⟨y0, y1, _, _⟩ := (k2.gr g12).two)
          | (go_at_call 80; refine (I1 _).out.mono ?_; rintro e w1 ⟨rfl, g1⟩; obtain ⟨y0, y1, _, _⟩ := (k2.gr g1).two))
        go_ret
        exact ⟨rfl, (g.trans g12).trans g3⟩
theorem out_any (p : Int × Int) (w : World) : Calls Tryz.prog 84 #[pt p.1 p.2] w fun e w' => e = .returned (.bool (!latP p)) ∧ Gr w w' := by
  have I1 : ∀ w, Hid (Calls Tryz.prog 80 #[pt p.1 p.2] w fun e w' => e = .returned (.bool (latP p)) ∧ Gr w w') := fun w => in_any p.1 p.2 w
  generalize latP p = B1 at *
  cases B1
  all_goals
    go_enter Tryz.func84, Tryz.ntmps84
    go_wp2_with (go_at_call 80; refine (I1 _).out.mono ?_; rintro e w1 ⟨rfl, g1⟩)
    go_ret
    exact ⟨rfl, ((Gr.refl _).alloc _).trans g1⟩
end
end Go.Proofs.YtgcofpfjdplopaaGreat
