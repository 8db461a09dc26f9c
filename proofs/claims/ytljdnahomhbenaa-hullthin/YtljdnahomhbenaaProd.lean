/- Contracts of the program's products: the size of a number of 64 bits, the product of two sizes, a product with its sign, two products held against one another. -/
import Derived.Test.YtljdnahomhbenaaWordJ
import Derived.Shelf.Bits.Mul64
namespace Go.Proofs.Ytljdnahomhbenaa
section
open Go.RowKit Go.Sort Go.Shelf

def renMul : Ren := ⟨fun n => if n = 264 then 112 else n, fun n => if n = 46 then 116 else if n = 53 then 69 else n, fun n => n⟩
theorem laysMul : Lays.n264 Try.prog renMul where
  mixed := by kernel_rfl
  f264 := by kernel_rfl
  t46 := by kernel_rfl
  a46 := fun w => by kernel_rfl
  z46 := fun w => by kernel_rfl
  v46 := fun w => by kernel_rfl
  t53 := by kernel_rfl
  a53 := fun w => by kernel_rfl
  z53 := fun w => by kernel_rfl
  v53 := fun w => by kernel_rfl

/-- The upper and the lower word of a product of two sizes. -/
def mulH (x y : Int) : Int := x * y / 18446744073709551616
def mulL (x y : Int) : Int := x * y % 18446744073709551616
theorem mul64_any (x y : Int) (w : World) (hx : 0 ≤ x) (hx' : x ≤ 18446744073709551615) (hy : 0 ≤ y) (hy' : y ≤ 18446744073709551615) :
    Calls Try.prog 112 #[.int .u64 x, .int .u64 y] w fun e w' => e = .returned (.tuple #[.int .u64 (mulH x y), .int .u64 (mulL x y)]) ∧ w' = w := by
  obtain ⟨X, rfl⟩ := Int.eq_ofNat_of_zero_le hx
  obtain ⟨Y, rfl⟩ := Int.eq_ofNat_of_zero_le hy
  have h : Calls Try.prog 112 #[.int .u64 (X : Int), .int .u64 (Y : Int)] w fun e w' => e = .returned (.tuple #[.int .u64 ((X * Y / 18446744073709551616 : Nat) : Int), .int .u64 ((X * Y % 18446744073709551616 : Nat) : Int)]) ∧ w' = w := Any.bits_Mul64 laysMul X Y (by omega) (by omega) w
  have e1 : ((X * Y / 18446744073709551616 : Nat) : Int) = mulH X Y := by unfold mulH; rw [← Int.natCast_mul]; omega
  have e2 : ((X * Y % 18446744073709551616 : Nat) : Int) = mulL X Y := by unfold mulL; rw [← Int.natCast_mul]; omega
  rw [e1, e2] at h
  exact h

/-- How far a number is from 0. -/
def absI (v : Int) : Int := if v < 0 then -v else v
theorem absI_bd {v : Int} (h0 : -9223372036854775808 ≤ v) (h1 : v ≤ 9223372036854775807) : 0 ≤ absI v ∧ absI v ≤ 9223372036854775808 := by unfold absI; split <;> omega
set_option maxHeartbeats 400000 in
theorem size64_any (v : Int) (w : World) (h0 : -9223372036854775808 ≤ v) (h1 : v ≤ 9223372036854775807) :
    Calls Try.prog 113 #[.int .i64 v] w fun e w' => e = .returned (.int .u64 (absI v)) ∧ w' = w := by
  by_cases hv : v < 0
  · have e : absI v = -v := by unfold absI; rw [if_pos hv]
    have E : Hid (IntKind.u64.wrap (-IntKind.u64.wrap v) = absI v) := by unfold Hid; rw [e, IntKind.wrap_u64, IntKind.wrap_u64]; omega
    clear e
    go_enter Try.func113, Try.ntmps113
    go_wp2
    go_ret
    exact ⟨by rw [← E.out]; rfl, rfl⟩
  · have e : absI v = v := by unfold absI; rw [if_neg hv]
    rw [e]
    clear e
    go_enter Try.func113, Try.ntmps113
    go_wp2
    go_ret
    exact ⟨rfl, rfl⟩

set_option maxHeartbeats 1000000 in
theorem signed_any (h l : Int) (b : Bool) (w : World) (h2 : 0 ≤ l) (h3 : l ≤ 18446744073709551615) :
    Calls Try.prog 114 #[.agg #[.int .u64 h, .int .u64 l], .bool b] w fun e w' => e = .returned (.agg #[.int .i64 (hiI (if b then -(h * 18446744073709551616 + l) else h * 18446744073709551616 + l)), .int .u64 (loI (if b then -(h * 18446744073709551616 + l) else h * 18446744073709551616 + l))]) ∧ Gr w w' := by
  have e1 : wrap64 h = hiI (h * 18446744073709551616 + l) := by unfold wrap64 hiI; omega
  have e2 : l = loI (h * 18446744073709551616 + l) := by unfold loI; omega
  have E1 : Hid (wrap64 h = hiI (h * 18446744073709551616 + l)) := e1
  have E2 : Hid (l = loI (h * 18446744073709551616 + l)) := e2
  clear e1 e2
  cases b with
  | false =>
    rw [if_neg (by simp)]
    go_enter Try.func114, Try.ntmps114
    go_wp2
    refine bodyPost_ret (v := .agg #[.int .i64 (wrap64 h), .int .u64 l]) (by simp [results, Try.results114, go_sem]) rfl ⟨?_, ?_⟩
    · rw [← E1.out, ← E2.out]
    · exact (((Gr.refl _).alloc _).alloc _).alloc _
  | true =>
    rw [if_pos rfl]
    have H := neg_any (h * 18446744073709551616 + l)
    rw [← E1.out, ← E2.out] at H
    have HN : Hid _ := H
    clear H
    go_enter Try.func114, Try.ntmps114
    go_wp2_with fail
    refine (HN.out _).mono ?_
    rintro e w1 ⟨rfl, hg⟩
    obtain ⟨hc, hf⟩ := hg.cells
    have hz : w.heap.size + 1 < w1.heap.size := by have := hg.size; simp at this; omega
    clear HN E1 E2
    go_wp2
    refine bodyPost_ret (v := .agg #[.int .i64 (hiI (-(h * 18446744073709551616 + l))), .int .u64 (loI (-(h * 18446744073709551616 + l)))]) (by simp [results, Try.results114, go_sem, hc]) rfl ⟨rfl, ?_⟩
    exact ((((((Gr.refl _).alloc _).alloc _).alloc _).trans hg).setCell (by simp) _).setCell (by simp) _

theorem mul_words {a b : Int} (ha0 : -9223372036854775808 ≤ a) (ha1 : a ≤ 9223372036854775807) (hb0 : -9223372036854775808 ≤ b) (hb1 : b ≤ 9223372036854775807) :
    0 ≤ mulH (absI a) (absI b) ∧ mulH (absI a) (absI b) ≤ 18446744073709551615 ∧ 0 ≤ mulL (absI a) (absI b) ∧ mulL (absI a) (absI b) ≤ 18446744073709551615 ∧
    (if (decide (a < 0) != decide (b < 0)) = true then -(mulH (absI a) (absI b) * 18446744073709551616 + mulL (absI a) (absI b)) else mulH (absI a) (absI b) * 18446744073709551616 + mulL (absI a) (absI b)) = a * b ∧ inI (a * b) := by
  obtain ⟨h1, h2⟩ := absI_bd ha0 ha1
  obtain ⟨h3, h4⟩ := absI_bd hb0 hb1
  have h5 : 0 ≤ absI a * absI b := Int.mul_nonneg h1 h3
  have h6 : absI a * absI b ≤ 9223372036854775808 * 9223372036854775808 := Int.mul_le_mul h2 h4 h3 (by omega)
  have h7 : mulH (absI a) (absI b) * 18446744073709551616 + mulL (absI a) (absI b) = absI a * absI b := by unfold mulH mulL; omega
  have h8 : a * b = if (decide (a < 0) != decide (b < 0)) = true then -(absI a * absI b) else absI a * absI b := by
    unfold absI
    by_cases x : a < 0 <;> by_cases y : b < 0 <;> simp [x, y, Int.neg_mul, Int.mul_neg]
  rw [h7]
  refine ⟨by unfold mulH; omega, by unfold mulH; omega, by unfold mulL; omega, by unfold mulL; omega, h8.symm, ?_⟩
  rw [h8]
  unfold inI
  split <;> omega

set_option maxHeartbeats 1000000 in
theorem wmul_any (a b : Int) (w : World) (ha0 : -9223372036854775808 ≤ a) (ha1 : a ≤ 9223372036854775807) (hb0 : -9223372036854775808 ≤ b) (hb1 : b ≤ 9223372036854775807) :
    Calls Try.prog 95 #[.int .i64 a, .int .i64 b] w fun e w' => e = .returned (.agg #[.int .i64 (hiI (a * b)), .int .u64 (loI (a * b))]) ∧ Gr w w' := by
  obtain ⟨q1, q2, q3, q4, q5, _⟩ := mul_words ha0 ha1 hb0 hb1
  obtain ⟨x1, x2⟩ := absI_bd ha0 ha1
  obtain ⟨y1, y2⟩ := absI_bd hb0 hb1
  have Q : Hid (∀ w, Calls Try.prog 114 #[.agg #[.int .u64 (mulH (absI a) (absI b)), .int .u64 (mulL (absI a) (absI b))], .bool (!(decide (a < 0) == decide (b < 0)))] w fun e w' => e = .returned (.agg #[.int .i64 (hiI (a * b)), .int .u64 (loI (a * b))]) ∧ Gr w w') := fun w => by
    have h := signed_any (mulH (absI a) (absI b)) (mulL (absI a) (absI b)) (decide (a < 0) != decide (b < 0)) w q3 q4
    rw [q5] at h
    exact h
  clear q5
  go_enter Try.func95, Try.ntmps95
  go_wp2_with (first
    | (go_at_call 113; refine (size64_any _ _ ?_ ?_).mono ?_; omega; omega; rintro e w' ⟨rfl, rfl⟩)
    | (go_at_call 112; refine (mul64_any (absI a) (absI b) _ x1 (by omega) y1 (by omega)).mono ?_; rintro e w' ⟨rfl, rfl⟩))
  refine (Q.out _).mono ?_
  rintro e w1 ⟨rfl, hg⟩
  obtain ⟨hc, hf⟩ := hg.cells
  have hz : w.heap.size < w1.heap.size := by have := hg.size; simp at this; omega
  clear Q
  go_wp2
  refine bodyPost_ret (v := .agg #[.int .i64 (hiI (a * b)), .int .u64 (loI (a * b))]) (by simp [results, Try.results95, go_sem, hc]) rfl ⟨rfl, ?_⟩
  exact ((((Gr.refl _).alloc _).trans hg).setCell (by simp) _).setCell (by simp) _

set_option maxHeartbeats 1000000 in
theorem cmpmul_any (a b c d : Int) (w : World) (ha0 : -9223372036854775808 ≤ a) (ha1 : a ≤ 9223372036854775807) (hb0 : -9223372036854775808 ≤ b) (hb1 : b ≤ 9223372036854775807) (hc0 : -9223372036854775808 ≤ c) (hc1 : c ≤ 9223372036854775807) (hd0 : -9223372036854775808 ≤ d) (hd1 : d ≤ 9223372036854775807) :
    Calls Try.prog 91 #[.int .i64 a, .int .i64 b, .int .i64 c, .int .i64 d] w fun e w' => e = .returned (.int .i64 (cmpI (a * b) (c * d))) ∧ Gr w w' := by
  have i1 : Hid (inI (a * b)) := (mul_words ha0 ha1 hb0 hb1).2.2.2.2.2
  have i2 : Hid (inI (c * d)) := (mul_words hc0 hc1 hd0 hd1).2.2.2.2.2
  go_enter Try.func91, Try.ntmps91
  go_wp2_with fail
  refine (wmul_any a b _ ha0 ha1 hb0 hb1).mono ?_
  rintro e w1 ⟨rfl, g1⟩
  go_wp2_with fail
  refine (wmul_any c d _ hc0 hc1 hd0 hd1).mono ?_
  rintro e w2 ⟨rfl, g2⟩
  go_wp2_with fail
  refine (cmp_any _ _ i1.out i2.out _).mono ?_
  rintro e w3 ⟨rfl, g3⟩
  go_wp2
  go_ret
  exact ⟨rfl, (g1.trans g2).trans g3⟩

/-- How two fractions are held against one another. -/
def fracI (a b c d : Int) : Int := if (decide (b < 0) != decide (d < 0)) = true then cmpI (c * b) (a * d) else cmpI (a * d) (c * b)
end
end Go.Proofs.Ytljdnahomhbenaa
