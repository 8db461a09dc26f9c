/- Contracts of the reference's order of directions, and of On; they are the program's. -/
import Derived.Test.YtljdnahomhbenaaRef6
import Derived.Test.YtljdnahomhbenaaOrderP
namespace Go.Proofs.Ytljdnahomhbenaa
section
open Go.RowKit Go.Sort

theorem mul_np {a b : Int} (ha : 0 ≤ a) (hb : b ≤ 0) : a * b ≤ 0 := by
  have := Int.mul_nonneg ha (show 0 ≤ -b by omega)
  rw [Int.mul_neg] at this; omega
/-- Which sector a direction falls into, by its sides. -/
theorem sec_cases (ox oy ax ay : Int) :
    (secI ox oy ax ay = 0 ∧ ax - ox = 0 ∧ ay - oy = 0) ∨ (secI ox oy ax ay = 1 ∧ 0 < ax - ox ∧ ay - oy = 0) ∨ (secI ox oy ax ay = 2 ∧ 0 < ax - ox ∧ 0 < ay - oy) ∨ (secI ox oy ax ay = 3 ∧ ax - ox = 0 ∧ 0 < ay - oy) ∨ (secI ox oy ax ay = 4 ∧ ax - ox < 0 ∧ 0 < ay - oy) ∨
    (secI ox oy ax ay = 5 ∧ ax - ox < 0 ∧ ay - oy = 0) ∨ (secI ox oy ax ay = 6 ∧ ax - ox < 0 ∧ ay - oy < 0) ∨ (secI ox oy ax ay = 7 ∧ ax - ox = 0 ∧ ay - oy < 0) ∨ (secI ox oy ax ay = 8 ∧ 0 < ax - ox ∧ ay - oy < 0) := by
  have X3 : ox < ax ∨ ax < ox ∨ ax = ox := by omega
  have Y3 : oy < ay ∨ ay < oy ∨ ay = oy := by omega
  rcases X3 with x3 | x3 | x3 <;> rcases Y3 with y3 | y3 | y3
  · have e : secI ox oy ax ay = 2 := by unfold secI; grind
    exact Or.inr (Or.inr (Or.inl ⟨e, by omega, by omega⟩))
  · have e : secI ox oy ax ay = 8 := by unfold secI; grind
    exact Or.inr (Or.inr (Or.inr (Or.inr (Or.inr (Or.inr (Or.inr (Or.inr (⟨e, by omega, by omega⟩))))))))
  · have e : secI ox oy ax ay = 1 := by unfold secI; grind
    exact Or.inr (Or.inl ⟨e, by omega, by omega⟩)
  · have e : secI ox oy ax ay = 4 := by unfold secI; grind
    exact Or.inr (Or.inr (Or.inr (Or.inr (Or.inl ⟨e, by omega, by omega⟩))))
  · have e : secI ox oy ax ay = 6 := by unfold secI; grind
    exact Or.inr (Or.inr (Or.inr (Or.inr (Or.inr (Or.inr (Or.inl ⟨e, by omega, by omega⟩))))))
  · have e : secI ox oy ax ay = 5 := by unfold secI; grind
    exact Or.inr (Or.inr (Or.inr (Or.inr (Or.inr (Or.inl ⟨e, by omega, by omega⟩)))))
  · have e : secI ox oy ax ay = 3 := by unfold secI; grind
    exact Or.inr (Or.inr (Or.inr (Or.inl ⟨e, by omega, by omega⟩)))
  · have e : secI ox oy ax ay = 7 := by unfold secI; grind
    exact Or.inr (Or.inr (Or.inr (Or.inr (Or.inr (Or.inr (Or.inr (Or.inl ⟨e, by omega, by omega⟩)))))))
  · have e : secI ox oy ax ay = 0 := by unfold secI; grind
    exact Or.inl ⟨e, by omega, by omega⟩
theorem half_sec (ox oy ax ay : Int) : halfI ox oy ax ay = if secI ox oy ax ay = 0 then 0 else if secI ox oy ax ay ≤ 4 then 1 else 2 := by
  have h := sec_cases ox oy ax ay
  unfold halfI
  generalize secI ox oy ax ay = S at *
  repeat' split
  all_goals omega
/-- Two directions of one half, the first of an earlier sector. -/
theorem sec_lt {ux uy vx vy S T : Int}
    (hu : (S = 0 ∧ ux = 0 ∧ uy = 0) ∨ (S = 1 ∧ 0 < ux ∧ uy = 0) ∨ (S = 2 ∧ 0 < ux ∧ 0 < uy) ∨ (S = 3 ∧ ux = 0 ∧ 0 < uy) ∨ (S = 4 ∧ ux < 0 ∧ 0 < uy) ∨ (S = 5 ∧ ux < 0 ∧ uy = 0) ∨ (S = 6 ∧ ux < 0 ∧ uy < 0) ∨ (S = 7 ∧ ux = 0 ∧ uy < 0) ∨ (S = 8 ∧ 0 < ux ∧ uy < 0))
    (hv : (T = 0 ∧ vx = 0 ∧ vy = 0) ∨ (T = 1 ∧ 0 < vx ∧ vy = 0) ∨ (T = 2 ∧ 0 < vx ∧ 0 < vy) ∨ (T = 3 ∧ vx = 0 ∧ 0 < vy) ∨ (T = 4 ∧ vx < 0 ∧ 0 < vy) ∨ (T = 5 ∧ vx < 0 ∧ vy = 0) ∨ (T = 6 ∧ vx < 0 ∧ vy < 0) ∨ (T = 7 ∧ vx = 0 ∧ vy < 0) ∨ (T = 8 ∧ 0 < vx ∧ vy < 0))
    (hST : S < T) (hh : (1 ≤ S ∧ T ≤ 4) ∨ 5 ≤ S) : 0 < ux * vy - uy * vx := by
  rcases hh with ⟨h1, h4⟩ | h5
  · by_cases hx : 0 < ux
    · have a := Int.mul_pos hx (show 0 < vy by omega)
      have b : uy * vx ≤ 0 := by
        rcases (show uy = 0 ∨ (0 ≤ uy ∧ vx ≤ 0) by omega) with k | ⟨k, l⟩
        · rw [k]; simp
        · exact mul_np k l
      omega
    · have hx0 : ux = 0 := by omega
      have a := Int.mul_pos (show 0 < uy by omega) (show 0 < -vx by omega)
      rw [Int.mul_neg] at a
      rw [hx0, Int.zero_mul]; omega
  · by_cases hx : ux < 0
    · have a := Int.mul_pos (show 0 < -ux by omega) (show 0 < -vy by omega)
      rw [Int.neg_mul_neg] at a
      have b : uy * vx ≤ 0 := by
        rcases (show uy = 0 ∨ (0 ≤ -uy ∧ -vx ≤ 0) by omega) with k | ⟨k, l⟩
        · rw [k]; simp
        · have := mul_np k l
          rwa [Int.neg_mul_neg] at this
      omega
    · have hx0 : ux = 0 := by omega
      have a := Int.mul_pos (show 0 < -uy by omega) (show 0 < vx by omega)
      rw [Int.neg_mul] at a
      rw [hx0, Int.zero_mul]; omega
theorem around_sec (ox oy ax ay bx by_ : Int) : aroundI ox oy ax ay bx by_ = if secI ox oy ax ay < secI ox oy bx by_ then -1 else if secI ox oy bx by_ < secI ox oy ax ay then 1 else -turnI ox oy ax ay bx by_ := by
  have key : ∀ a1 a2 b1 b2 : Int, secI ox oy a1 a2 < secI ox oy b1 b2 → aroundI ox oy a1 a2 b1 b2 = -1 := by
    intro a1 a2 b1 b2 h
    have ca := sec_cases ox oy a1 a2
    have cb := sec_cases ox oy b1 b2
    unfold aroundI
    rw [half_sec ox oy a1 a2, half_sec ox oy b1 b2]
    have sl := @sec_lt (a1 - ox) (a2 - oy) (b1 - ox) (b2 - oy) (secI ox oy a1 a2) (secI ox oy b1 b2) ca cb h
    have tt : 0 < (a1 - ox) * (b2 - oy) - (a2 - oy) * (b1 - ox) → turnI ox oy a1 a2 b1 b2 = 1 := by
      intro q; unfold turnI cmpI; rw [if_neg (by omega), if_pos (by omega)]
    have n1 : 0 ≤ secI ox oy a1 a2 := by omega
    have n2 : secI ox oy b1 b2 ≤ 8 := by omega
    clear ca cb
    generalize secI ox oy a1 a2 = S at *
    generalize secI ox oy b1 b2 = T at *
    by_cases hs : (1 ≤ S ∧ T ≤ 4) ∨ 5 ≤ S
    · rw [tt (sl hs)]
      unfold cmpI
      split <;> (repeat' split) <;> omega
    · clear sl tt
      unfold cmpI
      grind
  by_cases h : secI ox oy ax ay < secI ox oy bx by_
  · rw [if_pos h]; exact key _ _ _ _ h
  · rw [if_neg h]
    by_cases k : secI ox oy bx by_ < secI ox oy ax ay
    · rw [if_pos k, ← Int.neg_neg (aroundI ox oy ax ay bx by_), ← around_back, key _ _ _ _ k]; rfl
    · rw [if_neg k]
      have e : secI ox oy ax ay = secI ox oy bx by_ := by omega
      unfold aroundI
      rw [half_sec ox oy ax ay, half_sec ox oy bx by_, e, if_pos (by rw [cmpI_zero])]

theorem on_bet (px py ax ay bx by_ : Int) : onB px py ax ay bx by_ = (betB ax bx px && betB ay by_ py && (turnI ax ay bx by_ px py == 0)) := by
  have : hasB (minI ax bx) (minI ay by_) (maxI ax bx) (maxI ay by_) px py = (betB ax bx px && betB ay by_ py) := by
    unfold hasB rightB betB minI maxI
    grind
  unfold onB
  rw [this]

set_option maxRecDepth 20000 in
set_option maxHeartbeats 4000000 in
theorem ron_any (ox oy ax ay bx by_ : Int) (h0 : in32 ox) (h1 : in32 oy) (h2 : in32 ax) (h3 : in32 ay) (h4 : in32 bx) (h5 : in32 by_) (w : World) :
    Calls Try.prog 56 #[pt ox oy, pt ax ay, pt bx by_] w fun e w' => e = .returned (.bool (onB ox oy ax ay bx by_)) ∧ Below w.heap.size w w' := by
  have C : Hid (∀ w, Calls Try.prog 25 #[pt ax ay, pt bx by_, pt ox oy] w fun e w' => e = .returned (.int .i64 (turnI ax ay bx by_ ox oy)) ∧ Below w.heap.size w w') := rturn_any ax ay bx by_ ox oy h2 h3 h4 h5 h0 h1
  have E : Hid (onB ox oy ax ay bx by_ = (betB ax bx ox && betB ay by_ oy && (turnI ax ay bx by_ ox oy == 0))) := on_bet ox oy ax ay bx by_
  have S1 : Hid (∀ w, Calls Try.prog 84 #[.int .i32 ax, .int .i32 bx, .int .i32 ox] w fun e w' => e = .returned (.bool (betB ax bx ox)) ∧ w' = w) := rbetween_any ax bx ox
  have S2 : Hid (∀ w, Calls Try.prog 84 #[.int .i32 ay, .int .i32 by_, .int .i32 oy] w fun e w' => e = .returned (.bool (betB ay by_ oy)) ∧ w' = w) := rbetween_any ay by_ oy
  clear h0 h1 h2 h3 h4 h5
  generalize betB ax bx ox = b1 at *
  generalize betB ay by_ oy = b2 at *
  generalize turnI ax ay bx by_ ox oy = t at *
  have hW : Gr w (((w.alloc (.cells #[.int .i32 ox, .int .i32 oy] 28)).alloc (.cells #[.int .i32 ax, .int .i32 ay] 28)).alloc (.cells #[.int .i32 bx, .int .i32 by_] 28)) := (((Gr.refl _).alloc _).alloc _).alloc _
  go_enter Try.func56, Try.ntmps56
  go_upto_region 1 with fail
  have x0 : (((w.alloc (.cells #[.int .i32 ox, .int .i32 oy] 28)).alloc (.cells #[.int .i32 ax, .int .i32 ay] 28)).alloc (.cells #[.int .i32 bx, .int .i32 by_] 28)).cell? ⟨w.heap.size, 0, none⟩ = some (.int .i32 ox) := by go_simp
  have x1 : (((w.alloc (.cells #[.int .i32 ox, .int .i32 oy] 28)).alloc (.cells #[.int .i32 ax, .int .i32 ay] 28)).alloc (.cells #[.int .i32 bx, .int .i32 by_] 28)).cell? ⟨w.heap.size, 1, none⟩ = some (.int .i32 oy) := by go_simp
  have x2 : (((w.alloc (.cells #[.int .i32 ox, .int .i32 oy] 28)).alloc (.cells #[.int .i32 ax, .int .i32 ay] 28)).alloc (.cells #[.int .i32 bx, .int .i32 by_] 28)).cell? ⟨w.heap.size + 1, 0, none⟩ = some (.int .i32 ax) := by go_simp
  have x3 : (((w.alloc (.cells #[.int .i32 ox, .int .i32 oy] 28)).alloc (.cells #[.int .i32 ax, .int .i32 ay] 28)).alloc (.cells #[.int .i32 bx, .int .i32 by_] 28)).cell? ⟨w.heap.size + 1, 1, none⟩ = some (.int .i32 ay) := by go_simp
  have x4 : (((w.alloc (.cells #[.int .i32 ox, .int .i32 oy] 28)).alloc (.cells #[.int .i32 ax, .int .i32 ay] 28)).alloc (.cells #[.int .i32 bx, .int .i32 by_] 28)).cell? ⟨w.heap.size + 1 + 1, 0, none⟩ = some (.int .i32 bx) := by go_simp
  have x5 : (((w.alloc (.cells #[.int .i32 ox, .int .i32 oy] 28)).alloc (.cells #[.int .i32 ax, .int .i32 ay] 28)).alloc (.cells #[.int .i32 bx, .int .i32 by_] 28)).cell? ⟨w.heap.size + 1 + 1, 1, none⟩ = some (.int .i32 by_) := by go_simp
  generalize ((w.alloc (.cells #[.int .i32 ox, .int .i32 oy] 28)).alloc (.cells #[.int .i32 ax, .int .i32 ay] 28)).alloc (.cells #[.int .i32 bx, .int .i32 by_] 28) = W at *
  go_wp2_with fail
  refine (S1.out _).mono ?_
  rintro e v1 ⟨rfl, rfl⟩
  cases b1 with
  | false =>
    go_wp2
    go_ret
    exact ⟨by rw [E.out]; rfl, hW.below⟩
  | true =>
    go_wp2_with fail
    refine (S2.out _).mono ?_
    rintro e v2 ⟨rfl, rfl⟩
    cases b2 with
    | false =>
      go_wp2
      go_ret
      exact ⟨by rw [E.out]; rfl, hW.below⟩
    | true =>
      go_wp2_with fail
      refine (C.out _).mono ?_
      rintro e v3 ⟨rfl, hb⟩
      go_wp2
      go_ret
      exact ⟨by rw [E.out]; rfl, hW.below.trans (hb.mono hW.size)⟩
end
end Go.Proofs.Ytljdnahomhbenaa
