/- Contracts of the reference's products and fractions held against one another. -/
import Derived.Test.YtgpkigofbncamaaGcd
namespace Go.Proofs.Ytgpkigofbncamaa
open Go.RowKit Go.Sort

theorem hmono {w w' : World} {x : Value} {n : Int} (h : Hid (Nm w x n)) (g : Below w.heap.size w w') : Hid (Nm w' x n) := h.out.mono g
/-- A number of 64 bits. -/
def inW (a : Int) : Prop := -9223372036854775808 ≤ a ∧ a ≤ 9223372036854775807
theorem prod_bd {a b : Int} (ha : inW a) (hb : inW b) : inI (a * b) := (mul_words ha.1 ha.2 hb.1 hb.2).2.2.2.2.2
theorem small_W {a : Int} (ha : inW a) : small a := small_256 (by have := ha.1; omega) (by have := ha.2; omega)

set_option maxHeartbeats 1000000 in
theorem rcmpmul_any (a b c d : Int) (w : World) (ha : inW a) (hb : inW b) (hc : inW c) (hd : inW d) :
    Calls Try.prog 26 #[.int .i64 a, .int .i64 b, .int .i64 c, .int .i64 d] w fun e w' => e = .returned (.int .i64 (cmpI (a * b) (c * d))) ∧ Below w.heap.size w w' := by
  have HA : Hid (inW a) := ha
  have HB : Hid (inW b) := hb
  have HC : Hid (inW c) := hc
  have HD : Hid (inW d) := hd
  clear ha hb hc hd
  go_enter Try.func26, Try.ntmps26
  go_wp2_with fail
  refine (of_num a _ HA.out.1 HA.out.2).mono ?_
  rintro e w1 ⟨z, rfl, hz1, hb0⟩
  obtain ⟨r1, o1, l1, c1, rfl, hz1'⟩ := hz1.shape
  clear hz1
  go_wp2_with fail
  refine (of_num b _ HB.out.1 HB.out.2).mono ?_
  rintro e w2 ⟨z, rfl, hz2, hb2⟩
  replace hb0 := hb0.trans (hb2.mono hb0.size)
  obtain ⟨r2, o2, l2, c2, rfl, hz2'⟩ := hz2.shape
  replace hz1' := hmono hz1' hb2
  clear hz2 hb2
  go_wp2_with fail
  refine (mul_num _ _ a b _ hz1'.out hz2'.out (small_W HA.out) (small_W HB.out)).mono ?_
  rintro e w3 ⟨z, rfl, hz3, hb3⟩
  replace hb0 := hb0.trans (hb3.mono hb0.size)
  obtain ⟨r3, o3, l3, c3, rfl, hz3'⟩ := hz3.shape
  clear hz3 hb3 hz1' hz2'
  go_wp2_with fail
  refine (of_num c _ HC.out.1 HC.out.2).mono ?_
  rintro e w4 ⟨z, rfl, hz4, hb4⟩
  replace hb0 := hb0.trans (hb4.mono hb0.size)
  obtain ⟨r4, o4, l4, c4, rfl, hz4'⟩ := hz4.shape
  replace hz3' := hmono hz3' hb4
  clear hz4 hb4
  go_wp2_with fail
  refine (of_num d _ HD.out.1 HD.out.2).mono ?_
  rintro e w5 ⟨z, rfl, hz5, hb5⟩
  replace hb0 := hb0.trans (hb5.mono hb0.size)
  obtain ⟨r5, o5, l5, c5, rfl, hz5'⟩ := hz5.shape
  replace hz3' := hmono hz3' hb5
  replace hz4' := hmono hz4' hb5
  clear hz5 hb5
  go_wp2_with fail
  refine (mul_num _ _ c d _ hz4'.out hz5'.out (small_W HC.out) (small_W HD.out)).mono ?_
  rintro e w6 ⟨z, rfl, hz6, hb6⟩
  replace hb0 := hb0.trans (hb6.mono hb0.size)
  obtain ⟨r6, o6, l6, c6, rfl, hz6'⟩ := hz6.shape
  replace hz3' := hmono hz3' hb6
  clear hz6 hb6 hz4' hz5'
  go_wp2_with fail
  refine (cmp_num _ _ (a * b) (c * d) _ hz3'.out hz6'.out).mono ?_
  rintro e w7 ⟨rfl, hg⟩
  replace hb0 := hb0.trans (hg.below.mono hb0.size)
  go_wp2
  go_ret
  exact ⟨rfl, hb0⟩

theorem frac_neg {a b c d : Int} (hs : (decide (b < 0) != decide (d < 0)) = true) : fracI a b c d = -cmpI (a * d) (c * b) := by
  unfold fracI; rw [if_pos hs, cmpI_neg]
theorem frac_pos {a b c d : Int} (hs : ¬ (decide (b < 0) != decide (d < 0)) = true) : fracI a b c d = cmpI (a * d) (c * b) := by
  unfold fracI; rw [if_neg hs]
theorem cmp_wrap (m n : Int) : -9223372036854775808 ≤ -cmpI m n ∧ -cmpI m n ≤ 9223372036854775807 := by have := cmpI_bd m n; omega

set_option maxHeartbeats 2000000 in
theorem rcmpfrac_any (a b c d : Int) (w : World) (ha : inW a) (hb : inW b) (hc : inW c) (hd : inW d) :
    Calls Try.prog 24 #[.int .i64 a, .int .i64 b, .int .i64 c, .int .i64 d] w fun e w' => e = .returned (.tuple #[.int .i64 (if b = 0 ∨ d = 0 then 0 else fracI a b c d), .int .i64 (if b = 0 ∨ d = 0 then 13 else 0)]) ∧ Below w.heap.size w w' := by
  by_cases hb0 : b = 0
  · have e : b = 0 ∨ d = 0 := .inl hb0
    rw [if_pos e, if_pos e]
    have hb' : (b == 0) = true := by simp [hb0]
    clear hb0 e
    go_enter Try.func24, Try.ntmps24
    go_wp2
    go_ret2
    exact ⟨rfl, Below.refl _ _⟩
  · by_cases hd0 : d = 0
    · have e : b = 0 ∨ d = 0 := .inr hd0
      rw [if_pos e, if_pos e]
      have hb' : (b == 0) = false := by simp [hb0]
      have hd' : (d == 0) = true := by simp [hd0]
      clear hb0 hd0 e
      go_enter Try.func24, Try.ntmps24
      go_wp2
      go_ret2
      exact ⟨rfl, Below.refl _ _⟩
    · have e : ¬ (b = 0 ∨ d = 0) := by omega
      rw [if_neg e, if_neg e]
      have hb' : (b == 0) = false := by simp [hb0]
      have hd' : (d == 0) = false := by simp [hd0]
      clear hb0 hd0 e
      have HA : Hid (inW a) := ha
      have HB : Hid (inW b) := hb
      have HC : Hid (inW c) := hc
      have HD : Hid (inW d) := hd
      clear ha hb hc hd
      go_enter Try.func24, Try.ntmps24
      go_wp2_with fail
      refine (of_num a _ HA.out.1 HA.out.2).mono ?_
      rintro e w1 ⟨z, rfl, hz1, hb0⟩
      obtain ⟨r1, o1, l1, c1, rfl, hz1'⟩ := hz1.shape
      clear hz1
      go_wp2_with fail
      refine (of_num d _ HD.out.1 HD.out.2).mono ?_
      rintro e w2 ⟨z, rfl, hz2, hb2⟩
      replace hb0 := hb0.trans (hb2.mono hb0.size)
      obtain ⟨r2, o2, l2, c2, rfl, hz2'⟩ := hz2.shape
      replace hz1' := hmono hz1' hb2
      clear hz2 hb2
      go_wp2_with fail
      refine (mul_num _ _ a d _ hz1'.out hz2'.out (small_W HA.out) (small_W HD.out)).mono ?_
      rintro e w3 ⟨z, rfl, hz3, hb3⟩
      replace hb0 := hb0.trans (hb3.mono hb0.size)
      obtain ⟨r3, o3, l3, c3, rfl, hz3'⟩ := hz3.shape
      clear hz3 hb3 hz1' hz2'
      go_wp2_with fail
      refine (of_num c _ HC.out.1 HC.out.2).mono ?_
      rintro e w4 ⟨z, rfl, hz4, hb4⟩
      replace hb0 := hb0.trans (hb4.mono hb0.size)
      obtain ⟨r4, o4, l4, c4, rfl, hz4'⟩ := hz4.shape
      replace hz3' := hmono hz3' hb4
      clear hz4 hb4
      go_wp2_with fail
      refine (of_num b _ HB.out.1 HB.out.2).mono ?_
      rintro e w5 ⟨z, rfl, hz5, hb5⟩
      replace hb0 := hb0.trans (hb5.mono hb0.size)
      obtain ⟨r5, o5, l5, c5, rfl, hz5'⟩ := hz5.shape
      replace hz3' := hmono hz3' hb5
      replace hz4' := hmono hz4' hb5
      clear hz5 hb5
      go_wp2_with fail
      refine (mul_num _ _ c b _ hz4'.out hz5'.out (small_W HC.out) (small_W HB.out)).mono ?_
      rintro e w6 ⟨z, rfl, hz6, hb6⟩
      replace hb0 := hb0.trans (hb6.mono hb0.size)
      obtain ⟨r6, o6, l6, c6, rfl, hz6'⟩ := hz6.shape
      replace hz3' := hmono hz3' hb6
      clear hz6 hb6 hz4' hz5'
      go_wp2_with fail
      refine (cmp_num _ _ (a * d) (c * b) _ hz3'.out hz6'.out).mono ?_
      rintro e w7 ⟨rfl, hg⟩
      replace hb0 := hb0.trans (hg.below.mono hb0.size)
      clear hg hz3' hz6'
      obtain ⟨q1, q2⟩ := cmp_wrap (a * d) (c * b)
      by_cases hs : (decide (b < 0) != decide (d < 0)) = true
      · have E : Hid (fracI a b c d = -cmpI (a * d) (c * b)) := frac_neg hs
        have hs' : (decide (b < 0) == decide (d < 0)) = false := by simpa using hs
        clear hs
        go_wp2
        go_ret2
        exact ⟨by rw [E.out]; rfl, hb0⟩
      · have E : Hid (fracI a b c d = cmpI (a * d) (c * b)) := frac_pos hs
        have hs' : (decide (b < 0) == decide (d < 0)) = true := by simpa using hs
        clear hs
        go_wp2
        go_ret2
        exact ⟨by rw [E.out]; rfl, hb0⟩
end Go.Proofs.Ytgpkigofbncamaa
