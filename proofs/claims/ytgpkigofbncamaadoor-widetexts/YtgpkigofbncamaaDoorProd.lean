/- Contracts of the program's products: the size of a number of 64 bits, the product of two sizes, a product with its sign, two products held against one another. -/
import Derived.Test.YtgpkigofbncamaaDoorWide
import Derived.Shelf.Bits.Mul64
namespace Go.Proofs.YtgpkigofbncamaaDoor
open Go.RowKit Go.Sort Go.Shelf

def renMul : Ren := ⟨fun n => if n = 264 then 47 else n, fun n => if n = 46 then 68 else if n = 53 then 22 else n, fun n => n⟩
theorem laysMul : Lays.n264 Tryd.prog renMul where
  mixed := by kernel_rfl
  f264 := by kernel_rfl
  t46 := by kernel_rfl
  a46 := fun w => by kernel_rfl
  z46 := fun w => by kernel_rfl
  v46 := fun w => by kernel_rfl
  t53 := by kernel_rfl
  a53 := fun w => by kernel_rfl
  z53 := fun w => by kernel_rfl
  v53 := fun w => by kernel_rfl

/-- The upper and the lower word of a product of two sizes. -/
def mulH (x y : Int) : Int := x * y / 18446744073709551616
def mulL (x y : Int) : Int := x * y % 18446744073709551616
theorem mul64_any (x y : Int) (w : World) (hx : 0 ≤ x) (hx' : x ≤ 18446744073709551615) (hy : 0 ≤ y) (hy' : y ≤ 18446744073709551615) :
    Calls Tryd.prog 47 #[.int .u64 x, .int .u64 y] w fun e w' => e = .returned (.tuple #[.int .u64 (mulH x y), .int .u64 (mulL x y)]) ∧ w' = w := by
  obtain ⟨X, rfl⟩ := Int.eq_ofNat_of_zero_le hx
  obtain ⟨Y, rfl⟩ := Int.eq_ofNat_of_zero_le hy
  have h : Calls Tryd.prog 47 #[.int .u64 (X : Int), .int .u64 (Y : Int)] w fun e w' => e = .returned (.tuple #[.int .u64 ((X * Y / 18446744073709551616 : Nat) : Int), .int .u64 ((X * Y % 18446744073709551616 : Nat) : Int)]) ∧ w' = w := Any.bits_Mul64 laysMul X Y (by omega) (by omega) w
  have e1 : ((X * Y / 18446744073709551616 : Nat) : Int) = mulH X Y := by unfold mulH; rw [← Int.natCast_mul]; omega
  have e2 : ((X * Y % 18446744073709551616 : Nat) : Int) = mulL X Y := by unfold mulL; rw [← Int.natCast_mul]; omega
  rw [e1, e2] at h
  exact h

/-- How far a number is from 0. -/
def absI (v : Int) : Int := if v < 0 then -v else v
theorem absI_bd {v : Int} (h0 : -9223372036854775808 ≤ v) (h1 : v ≤ 9223372036854775807) : 0 ≤ absI v ∧ absI v ≤ 9223372036854775808 := by unfold absI; split <;> omega


set_option maxHeartbeats 1000000 in
theorem signed_any (h l : Int) (b : Bool) (w : World) (h2 : 0 ≤ l) (h3 : l ≤ 18446744073709551615) :
    Calls Tryd.prog 23 #[.agg #[.int .u64 h, .int .u64 l], .bool b] w fun e w' => e = .returned (.agg #[.int .i64 (hiI (if b then -(h * 18446744073709551616 + l) else h * 18446744073709551616 + l)), .int .u64 (loI (if b then -(h * 18446744073709551616 + l) else h * 18446744073709551616 + l))]) ∧ Gr w w' := by
  have e1 : wrap64 h = hiI (h * 18446744073709551616 + l) := by unfold wrap64 hiI; omega
  have e2 : l = loI (h * 18446744073709551616 + l) := by unfold loI; omega
  have E1 : Hid (wrap64 h = hiI (h * 18446744073709551616 + l)) := e1
  have E2 : Hid (l = loI (h * 18446744073709551616 + l)) := e2
  clear e1 e2
  cases b with
  | false =>
    rw [if_neg (by simp)]
    go_enter Tryd.func23, Tryd.ntmps23
    go_wp2
    refine bodyPost_ret (v := .agg #[.int .i64 (wrap64 h), .int .u64 l]) (by simp [results, Tryd.results23, go_sem]) rfl ⟨?_, ?_⟩
    · rw [← E1.out, ← E2.out]
    · exact (((Gr.refl _).alloc _).alloc _).alloc _
  | true =>
    rw [if_pos rfl]
    have H := neg_any (h * 18446744073709551616 + l)
    rw [← E1.out, ← E2.out] at H
    have HN : Hid _ := H
    clear H
    go_enter Tryd.func23, Tryd.ntmps23
    go_wp2_with fail
    refine (HN.out _).mono ?_
    rintro e w1 ⟨rfl, hg⟩
    obtain ⟨hc, hf⟩ := hg.cells
    have hz : w.heap.size + 1 < w1.heap.size := by have := hg.size; simp at this; omega
    clear HN E1 E2
    go_wp2
    refine bodyPost_ret (v := .agg #[.int .i64 (hiI (-(h * 18446744073709551616 + l))), .int .u64 (loI (-(h * 18446744073709551616 + l)))]) (by simp [results, Tryd.results23, go_sem, hc]) rfl ⟨rfl, ?_⟩
    exact ((((((Gr.refl _).alloc _).alloc _).alloc _).trans hg).setCell (by simp) _).setCell (by simp) _



end Go.Proofs.YtgpkigofbncamaaDoor
