/- Contracts of the program's points and boxes: what each answers for every input; the memory that was there is as it was. -/
import Derived.Test.YtljdnahomhbenaaPt1
namespace Go.Proofs.Ytljdnahomhbenaa
section
open Go.RowKit Go.Sort

def latB (v : Int) : Bool := decide (-1073741823 ≤ v) && decide (v ≤ 1073741823)
theorem lat_any (v : Int) (w : World) : Calls Try.prog 103 #[.int .i32 v] w fun e w' => e = .returned (.bool (latB v)) ∧ w' = w := by
  by_cases h : -1073741823 ≤ v
  · by_cases k : v ≤ 1073741823
    · have e : latB v = true := by simp [latB, h, k]
      rw [e]; clear e
      go_enter Try.func103, Try.ntmps103
      go_wp2
      go_ret
      exact ⟨rfl, rfl⟩
    · have e : latB v = false := by simp only [latB, h, k, decide_true, decide_false, Bool.and_false]
      rw [e]; clear e
      go_enter Try.func103, Try.ntmps103
      go_wp2
      go_ret
      exact ⟨rfl, rfl⟩
  · have e : latB v = false := by simp only [latB, h, decide_false, Bool.false_and]
    rw [e]; clear e
    go_enter Try.func103, Try.ntmps103
    go_wp2
    go_ret
    exact ⟨rfl, rfl⟩

theorem in_any (x y : Int) (w : World) : Calls Try.prog 75 #[pt x y] w fun e w' => e = .returned (.bool (latB x && latB y)) ∧ Gr w w' := by
  cases h : latB x with
  | true =>
    have L : Hid (∀ w, Calls Try.prog 103 #[.int .i32 x] w fun e w' => e = .returned (.bool true) ∧ w' = w) := fun w => by rw [← h]; exact lat_any x w
    clear h
    go_enter Try.func75, Try.ntmps75
    go_wp2_with fail
    refine (L.out _).mono ?_
    rintro e w1 ⟨rfl, rfl⟩
    go_wp2_with fail
    refine (lat_any y _).mono ?_
    rintro e w1 ⟨rfl, rfl⟩
    go_wp2
    go_ret
    exact ⟨rfl, (Gr.refl _).alloc _⟩
  | false =>
    have L : Hid (∀ w, Calls Try.prog 103 #[.int .i32 x] w fun e w' => e = .returned (.bool false) ∧ w' = w) := fun w => by rw [← h]; exact lat_any x w
    clear h
    go_enter Try.func75, Try.ntmps75
    go_wp2_with fail
    refine (L.out _).mono ?_
    rintro e w1 ⟨rfl, rfl⟩
    go_wp2
    go_ret
    exact ⟨rfl, (Gr.refl _).alloc _⟩

/-- How two points are held against one another. -/
def cmpP (ax ay bx by_ : Int) : Int := if ax = bx then cmpI ay by_ else cmpI ax bx
set_option maxHeartbeats 1000000 in
theorem pcmp_any (ax ay bx by_ : Int) (w : World) :
    Calls Try.prog 86 #[pt ax ay, pt bx by_] w fun e w' => e = .returned (.int .i64 (cmpP ax ay bx by_)) ∧ Gr w w' := by
  by_cases h : ax = bx
  · by_cases k : ay = by_
    · have e : cmpP ax ay bx by_ = 0 := by unfold cmpP; rw [if_pos h, cmpI_zero]; exact k
      rw [e]; clear e
      subst h k
      go_enter Try.func86, Try.ntmps86
      go_wp2
      go_ret
      exact ⟨rfl, ((Gr.refl _).alloc _).alloc _⟩
    · have e : cmpP ax ay bx by_ = cmpI ay by_ := by unfold cmpP; rw [if_pos h]
      rw [e]; clear e
      have h' : (ax == bx) = true := by simp [h]
      have h'' : (ax != bx) = false := by simp [h]
      have k' : (ay == by_) = false := by simp [k]
      clear h k
      go_enter Try.func86, Try.ntmps86
      go_wp2_with (go_at_call 111; refine (cmp32_any _ _ _).mono ?_; rintro e w1 ⟨rfl, rfl⟩)
      go_ret
      exact ⟨rfl, ((Gr.refl _).alloc _).alloc _⟩
  · have e : cmpP ax ay bx by_ = cmpI ax bx := by unfold cmpP; rw [if_neg h]
    rw [e]; clear e
    have h' : (ax == bx) = false := by simp [h]
    have h'' : (ax != bx) = true := by simp [h]
    clear h
    go_enter Try.func86, Try.ntmps86
    go_wp2_with (go_at_call 111; refine (cmp32_any _ _ _).mono ?_; rintro e w1 ⟨rfl, rfl⟩)
    go_ret
    exact ⟨rfl, ((Gr.refl _).alloc _).alloc _⟩

theorem w64_sub2 (a b : Int) : wrap64 (wrap64 a - wrap64 b) = wrap64 (a - b) := by unfold wrap64; omega
theorem w64_add2 (a b : Int) : wrap64 (wrap64 a + wrap64 b) = wrap64 (a + b) := by unfold wrap64; omega
set_option maxHeartbeats 1000000 in
theorem cross_any (ox oy ax ay bx by_ : Int) (h1 : in32 ox) (h2 : in32 oy) (h3 : in32 ax) (h4 : in32 ay) (h5 : in32 bx) (h6 : in32 by_) (w : World) :
    Calls Try.prog 122 #[pt ox oy, pt ax ay, pt bx by_] w fun e w' => e = .returned (.int .i64 (wrap64 ((ax - ox) * (by_ - oy) - (ay - oy) * (bx - ox)))) ∧ Gr w w' := by
  have W1 : Hid (∀ w, Calls Try.prog 90 #[pt ox oy, pt ax ay] w fun e w' => e = .returned (.tuple #[.int .i64 (ax - ox), .int .i64 (ay - oy)]) ∧ Gr w w') := way_any ox oy ax ay h1 h2 h3 h4
  have W2 : Hid (∀ w, Calls Try.prog 90 #[pt ox oy, pt bx by_] w fun e w' => e = .returned (.tuple #[.int .i64 (bx - ox), .int .i64 (by_ - oy)]) ∧ Gr w w') := way_any ox oy bx by_ h1 h2 h5 h6
  clear h1 h2 h3 h4 h5 h6
  generalize ax - ox = AX at *
  generalize ay - oy = AY at *
  generalize bx - ox = BX at *
  generalize by_ - oy = BY at *
  go_enter Try.func122, Try.ntmps122
  go_wp2_with fail
  refine (W1.out _).mono ?_
  rintro e w1 ⟨rfl, g1⟩
  obtain ⟨c1, f1⟩ := g1.cells
  have z1 := g1.size
  simp only [World.size_alloc] at z1
  go_wp2_with fail
  refine (W2.out _).mono ?_
  rintro e w2 ⟨rfl, g2⟩
  go_wp2
  go_ret
  refine ⟨?_, (((((Gr.refl _).alloc _).alloc _).alloc _).trans g1).trans g2⟩
  show Ending.returned (.int .i64 (wrap64 (wrap64 (AX * BY) - wrap64 (AY * BX)))) = _
  rw [w64_sub2]
set_option maxHeartbeats 1000000 in
theorem dot_any (ox oy ax ay bx by_ : Int) (h1 : in32 ox) (h2 : in32 oy) (h3 : in32 ax) (h4 : in32 ay) (h5 : in32 bx) (h6 : in32 by_) (w : World) :
    Calls Try.prog 68 #[pt ox oy, pt ax ay, pt bx by_] w fun e w' => e = .returned (.int .i64 (wrap64 ((ax - ox) * (bx - ox) + (ay - oy) * (by_ - oy)))) ∧ Gr w w' := by
  have W1 : Hid (∀ w, Calls Try.prog 90 #[pt ox oy, pt ax ay] w fun e w' => e = .returned (.tuple #[.int .i64 (ax - ox), .int .i64 (ay - oy)]) ∧ Gr w w') := way_any ox oy ax ay h1 h2 h3 h4
  have W2 : Hid (∀ w, Calls Try.prog 90 #[pt ox oy, pt bx by_] w fun e w' => e = .returned (.tuple #[.int .i64 (bx - ox), .int .i64 (by_ - oy)]) ∧ Gr w w') := way_any ox oy bx by_ h1 h2 h5 h6
  clear h1 h2 h3 h4 h5 h6
  generalize ax - ox = AX at *
  generalize ay - oy = AY at *
  generalize bx - ox = BX at *
  generalize by_ - oy = BY at *
  go_enter Try.func68, Try.ntmps68
  go_wp2_with fail
  refine (W1.out _).mono ?_
  rintro e w1 ⟨rfl, g1⟩
  obtain ⟨c1, f1⟩ := g1.cells
  have z1 := g1.size
  simp only [World.size_alloc] at z1
  go_wp2_with fail
  refine (W2.out _).mono ?_
  rintro e w2 ⟨rfl, g2⟩
  go_wp2
  go_ret
  refine ⟨?_, (((((Gr.refl _).alloc _).alloc _).alloc _).trans g1).trans g2⟩
  show Ending.returned (.int .i64 (wrap64 (wrap64 (AX * BX) + wrap64 (AY * BY)))) = _
  rw [w64_add2]

theorem dist2_any (ax ay bx by_ : Int) (h1 : in32 ax) (h2 : in32 ay) (h3 : in32 bx) (h4 : in32 by_) (w : World) :
    Calls Try.prog 42 #[pt ax ay, pt bx by_] w fun e w' => e = .returned (.int .i64 (wrap64 ((bx - ax) * (bx - ax) + (by_ - ay) * (by_ - ay)))) ∧ Gr w w' := by
  have D : Hid (∀ w, Calls Try.prog 68 #[pt ax ay, pt bx by_, pt bx by_] w fun e w' => e = .returned (.int .i64 (wrap64 ((bx - ax) * (bx - ax) + (by_ - ay) * (by_ - ay)))) ∧ Gr w w') := dot_any ax ay bx by_ bx by_ h1 h2 h3 h4 h3 h4
  clear h1 h2 h3 h4
  generalize wrap64 ((bx - ax) * (bx - ax) + (by_ - ay) * (by_ - ay)) = R at *
  go_enter Try.func42, Try.ntmps42
  go_wp2_with fail
  refine (D.out _).mono ?_
  rintro e w1 ⟨rfl, g1⟩
  go_wp2
  go_ret
  exact ⟨rfl, (((Gr.refl _).alloc _).alloc _).trans g1⟩

def rightB (a b c d : Int) : Bool := decide (a ≤ c) && decide (b ≤ d)
set_option maxHeartbeats 1000000 in
theorem right_any (a b c d : Int) (w : World) :
    Calls Try.prog 89 #[bx a b c d] w fun e w' => e = .returned (.bool (rightB a b c d)) ∧ Gr w w' := by
  by_cases h : a ≤ c
  · have e : rightB a b c d = decide (b ≤ d) := by unfold rightB; simp [h]
    rw [e]; clear e
    go_enter Try.func89, Try.ntmps89
    go_wp2
    go_ret
    exact ⟨rfl, (Gr.refl _).alloc _⟩
  · have e : rightB a b c d = false := by unfold rightB; simp only [h, decide_false, Bool.false_and]
    rw [e]; clear e
    go_enter Try.func89, Try.ntmps89
    go_wp2
    go_ret
    exact ⟨rfl, (Gr.refl _).alloc _⟩

def hasB (a b c d x y : Int) : Bool := rightB a b x y && rightB x y c d
set_option maxHeartbeats 1000000 in
theorem has_any (a b c d x y : Int) (w : World) :
    Calls Try.prog 62 #[bx a b c d, pt x y] w fun e w' => e = .returned (.bool (hasB a b c d x y)) ∧ Gr w w' := by
  cases h : rightB a b x y with
  | true =>
    have L : Hid (∀ w, Calls Try.prog 89 #[bx a b x y] w fun e w' => e = .returned (.bool true) ∧ Gr w w') := fun w => by rw [← h]; exact right_any a b x y w
    have e : hasB a b c d x y = rightB x y c d := by unfold hasB; rw [h]; rfl
    rw [e]
    clear h e
    go_enter Try.func62, Try.ntmps62
    go_wp2_with fail
    refine (L.out _).mono ?_
    rintro e w1 ⟨rfl, g1⟩
    obtain ⟨c1, f1⟩ := g1.cells
    go_wp2_with fail
    refine (right_any x y c d _).mono ?_
    rintro e w2 ⟨rfl, g2⟩
    go_wp2
    go_ret
    exact ⟨rfl, ((((Gr.refl _).alloc _).alloc _).trans g1).trans g2⟩
  | false =>
    have L : Hid (∀ w, Calls Try.prog 89 #[bx a b x y] w fun e w' => e = .returned (.bool false) ∧ Gr w w') := fun w => by rw [← h]; exact right_any a b x y w
    have e : hasB a b c d x y = false := by unfold hasB; rw [h]; rfl
    rw [e]
    clear h e
    go_enter Try.func62, Try.ntmps62
    go_wp2_with fail
    refine (L.out _).mono ?_
    rintro e w1 ⟨rfl, g1⟩
    go_wp2
    go_ret
    exact ⟨rfl, (((Gr.refl _).alloc _).alloc _).trans g1⟩

def minI (a b : Int) : Int := if a ≤ b then a else b
def maxI (a b : Int) : Int := if a ≤ b then b else a
set_option maxHeartbeats 1000000 in
theorem lower_any (ax ay bx by_ : Int) (w : World) :
    Calls Try.prog 87 #[pt ax ay, pt bx by_] w fun e w' => e = .returned (pt (minI ax bx) (minI ay by_)) ∧ Gr w w' := by
  go_enter Try.func87, Try.ntmps87
  go_wp2
  all_goals
    refine bodyPost_ret (v := pt (minI ax bx) (minI ay by_)) (by simp [results, Try.results87, go_sem]; unfold minI; constructor <;> split <;> omega) rfl ⟨rfl, ?_⟩
    exact (((Gr.refl _).alloc _).alloc _).alloc _

set_option maxHeartbeats 1000000 in
theorem upper_any (ax ay bx by_ : Int) (w : World) :
    Calls Try.prog 88 #[pt ax ay, pt bx by_] w fun e w' => e = .returned (pt (maxI ax bx) (maxI ay by_)) ∧ Gr w w' := by
  go_enter Try.func88, Try.ntmps88
  go_wp2
  all_goals
    refine bodyPost_ret (v := pt (maxI ax bx) (maxI ay by_)) (by simp [results, Try.results88, go_sem]; unfold maxI; constructor <;> split <;> omega) rfl ⟨rfl, ?_⟩
    exact (((Gr.refl _).alloc _).alloc _).alloc _
end
end Go.Proofs.Ytljdnahomhbenaa
