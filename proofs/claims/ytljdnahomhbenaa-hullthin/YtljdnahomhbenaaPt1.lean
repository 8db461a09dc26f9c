/- Contracts of the program's ways and turns: what each answers for every three points; the memory that was there is as it was. -/
import Derived.Test.YtljdnahomhbenaaProd
import Derived.Deep.RegionWith
namespace Go.Proofs.Ytljdnahomhbenaa
section
open Go.RowKit Go.Sort

def in32 (x : Int) : Prop := -2147483648 ≤ x ∧ x ≤ 2147483647
abbrev pt (x y : Int) : Value := .agg #[.int .i32 x, .int .i32 y]
abbrev bx (a b c d : Int) : Value := .agg #[.int .i32 a, .int .i32 b, .int .i32 c, .int .i32 d]

theorem w64_in {x : Int} (h : in32 x) : wrap64 x = x := by unfold in32 at h; unfold wrap64; omega
theorem w64_dif {x y : Int} (h : in32 x) (k : in32 y) : wrap64 (x - y) = x - y := by unfold in32 at *; unfold wrap64; omega
theorem dif_bd {x y : Int} (h : in32 x) (k : in32 y) : -9223372036854775808 ≤ x - y ∧ x - y ≤ 9223372036854775807 := by unfold in32 at *; omega

set_option maxHeartbeats 1000000 in
theorem way_any (ox oy px py : Int) (h1 : in32 ox) (h2 : in32 oy) (h3 : in32 px) (h4 : in32 py) (w : World) :
    Calls Try.prog 90 #[pt ox oy, pt px py] w fun e w' => e = .returned (.tuple #[.int .i64 (px - ox), .int .i64 (py - oy)]) ∧ Gr w w' := by
  have e1 := w64_in h1
  have e2 := w64_in h2
  have e3 := w64_in h3
  have e4 := w64_in h4
  have e5 := w64_dif h3 h1
  have e6 := w64_dif h4 h2
  clear h1 h2 h3 h4
  go_enter Try.func90, Try.ntmps90
  go_wp2
  go_region
  go_wp2
  go_ret2
  refine ⟨?_, (((Gr.refl _).alloc _).alloc _).drew⟩
  show Ending.returned (.tuple #[.int .i64 (wrap64 (px - ox)), .int .i64 (wrap64 (py - oy))]) = _
  rw [e5, e6]

/-- The turn of three points: which of two products is the greater. -/
def turnI (ox oy ax ay bx by_ : Int) : Int := cmpI ((ax - ox) * (by_ - oy)) ((ay - oy) * (bx - ox))

set_option maxHeartbeats 1000000 in
theorem turn_any (ox oy ax ay bx by_ : Int) (h1 : in32 ox) (h2 : in32 oy) (h3 : in32 ax) (h4 : in32 ay) (h5 : in32 bx) (h6 : in32 by_) (w : World) :
    Calls Try.prog 63 #[pt ox oy, pt ax ay, pt bx by_] w fun e w' => e = .returned (.int .i64 (turnI ox oy ax ay bx by_)) ∧ Gr w w' := by
  have W1 : Hid (∀ w, Calls Try.prog 90 #[pt ox oy, pt ax ay] w fun e w' => e = .returned (.tuple #[.int .i64 (ax - ox), .int .i64 (ay - oy)]) ∧ Gr w w') := way_any ox oy ax ay h1 h2 h3 h4
  have W2 : Hid (∀ w, Calls Try.prog 90 #[pt ox oy, pt bx by_] w fun e w' => e = .returned (.tuple #[.int .i64 (bx - ox), .int .i64 (by_ - oy)]) ∧ Gr w w') := way_any ox oy bx by_ h1 h2 h5 h6
  have b1 := dif_bd h3 h1
  have b2 := dif_bd h6 h2
  have b3 := dif_bd h4 h2
  have b4 := dif_bd h5 h1
  have C : Hid (∀ w, Calls Try.prog 91 #[.int .i64 (ax - ox), .int .i64 (by_ - oy), .int .i64 (ay - oy), .int .i64 (bx - ox)] w fun e w' => e = .returned (.int .i64 (turnI ox oy ax ay bx by_)) ∧ Gr w w') :=
    fun w => cmpmul_any _ _ _ _ w b1.1 b1.2 b2.1 b2.2 b3.1 b3.2 b4.1 b4.2
  clear b1 b2 b3 b4 h1 h2 h3 h4 h5 h6
  generalize turnI ox oy ax ay bx by_ = R at *
  generalize ax - ox = AX at *
  generalize ay - oy = AY at *
  generalize bx - ox = BX at *
  generalize by_ - oy = BY at *
  go_enter Try.func63, Try.ntmps63
  go_wp2_with fail
  refine (W1.out _).mono ?_
  rintro e w1 ⟨rfl, g1⟩
  obtain ⟨c1, f1⟩ := g1.cells
  have z1 := g1.size
  simp only [World.size_alloc] at z1
  go_wp2_with fail
  refine (W2.out _).mono ?_
  rintro e w2 ⟨rfl, g2⟩
  go_wp2_with fail
  refine (C.out _).mono ?_
  rintro e w3 ⟨rfl, g3⟩
  go_wp2
  go_ret
  exact ⟨rfl, ((((((Gr.refl _).alloc _).alloc _).alloc _).trans g1).trans g2).trans g3⟩

theorem nan32_any (a : Int) (w : World) : Calls Try.prog 133 #[.int .i32 a] w fun e w' => e = .returned (.bool false) ∧ w' = w := by
  have e : (a != a) = false := by simp
  go_enter Try.func133, Try.ntmps133
  go_wp2
  go_ret
  exact ⟨rfl, rfl⟩

set_option maxHeartbeats 400000 in
theorem cmp32_any (a b : Int) (w : World) :
    Calls Try.prog 111 #[.int .i32 a, .int .i32 b] w fun e w' => e = .returned (.int .i64 (cmpI a b)) ∧ w' = w := by
  by_cases h : a < b
  · have e : cmpI a b = -1 := by unfold cmpI; rw [if_pos h]
    rw [e]
    clear e
    go_enter Try.func111, Try.ntmps111
    go_wp2_with (go_at_call 133; refine (nan32_any _ _).mono ?_; rintro e w' ⟨rfl, rfl⟩)
    go_ret
    exact ⟨rfl, rfl⟩
  · by_cases h' : b < a
    · have e : cmpI a b = 1 := by unfold cmpI; rw [if_neg h, if_pos h']
      rw [e]
      clear e
      go_enter Try.func111, Try.ntmps111
      go_wp2_with (go_at_call 133; refine (nan32_any _ _).mono ?_; rintro e w' ⟨rfl, rfl⟩)
      go_ret
      exact ⟨rfl, rfl⟩
    · have e : cmpI a b = 0 := by unfold cmpI; rw [if_neg h, if_neg h']
      rw [e]
      clear e
      go_enter Try.func111, Try.ntmps111
      go_wp2_with (go_at_call 133; refine (nan32_any _ _).mono ?_; rintro e w' ⟨rfl, rfl⟩)
      go_ret
      exact ⟨rfl, rfl⟩

/-- In which half turn a direction lies. -/
def halfI (ox oy px py : Int) : Int := if px = ox ∧ py = oy then 0 else if py > oy ∨ (py = oy ∧ px > ox) then 1 else 2
end
end Go.Proofs.Ytljdnahomhbenaa
