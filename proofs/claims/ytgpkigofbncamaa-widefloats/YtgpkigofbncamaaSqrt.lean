/- Contracts of the program's square root: whether a square is held, the root bit by bit. -/
import Derived.Test.YtgpkigofbncamaaQuo
import Derived.Test.YtgpkigofbncamaaSqrtP
namespace Go.Proofs.Ytgpkigofbncamaa
open Go.RowKit Go.Sort

set_option maxHeartbeats 1000000 in
theorem holds_any (A n : Int) (w : World) (n0 : 0 ≤ n) (n1 : n ≤ 18446744073709551615) :
    Calls Try.prog 65 #[.agg #[.int .u64 (A / 18446744073709551616), .int .u64 (A % 18446744073709551616)], .int .u64 n] w fun e w' => e = .returned (.bool (decide (n * n ≤ A))) ∧ Gr w w' := by
  have e1 : mulH n n * 18446744073709551616 + mulL n n = n * n := by unfold mulH mulL; omega
  have e2 : 0 ≤ mulL n n := by unfold mulL; omega
  have e3 : mulL n n < 18446744073709551616 := by unfold mulL; omega
  have f1 : A / 18446744073709551616 * 18446744073709551616 + A % 18446744073709551616 = A := join A
  have f2 : 0 ≤ A % 18446744073709551616 := by omega
  have f3 : A % 18446744073709551616 < 18446744073709551616 := by omega
  generalize A / 18446744073709551616 = h at *
  generalize A % 18446744073709551616 = l at *
  by_cases t1 : mulH n n < h
  · have E : Hid (decide (n * n ≤ A) = true) := by unfold Hid; simp; omega
    clear e1 f1
    go_enter Try.func65, Try.ntmps65
    go_wp2_with (go_at_call 57; refine (mul64_any n n _ n0 n1 n0 n1).mono ?_; rintro e w' ⟨rfl, rfl⟩)
    go_ret
    exact ⟨by rw [E.out]; rfl, (Gr.refl _).alloc _⟩
  · have t1' : decide (mulH n n < h) = false := by simp; omega
    by_cases t2 : mulH n n = h
    · by_cases t3 : mulL n n ≤ l
      · have E : Hid (decide (n * n ≤ A) = true) := by unfold Hid; simp; omega
        have t2' : (mulH n n == h) = true := by simp [t2]
        clear e1 f1 t2
        go_enter Try.func65, Try.ntmps65
        go_wp2_with (go_at_call 57; refine (mul64_any n n _ n0 n1 n0 n1).mono ?_; rintro e w' ⟨rfl, rfl⟩)
        go_ret
        exact ⟨by rw [E.out]; rfl, (Gr.refl _).alloc _⟩
      · have E : Hid (decide (n * n ≤ A) = false) := by unfold Hid; simp; omega
        have t3' : decide (mulL n n ≤ l) = false := by simp; omega
        have t2' : (mulH n n == h) = true := by simp [t2]
        clear e1 f1 t2
        go_enter Try.func65, Try.ntmps65
        go_wp2_with (go_at_call 57; refine (mul64_any n n _ n0 n1 n0 n1).mono ?_; rintro e w' ⟨rfl, rfl⟩)
        go_ret
        exact ⟨by rw [E.out]; rfl, (Gr.refl _).alloc _⟩
    · have E : Hid (decide (n * n ≤ A) = false) := by unfold Hid; simp; omega
      have t2' : (mulH n n == h) = false := by simp [t2]
      clear e1 f1 t2
      go_enter Try.func65, Try.ntmps65
      go_wp2_with (go_at_call 57; refine (mul64_any n n _ n0 n1 n0 n1).mono ?_; rintro e w' ⟨rfl, rfl⟩)
      go_ret
      exact ⟨by rw [E.out]; rfl, (Gr.refl _).alloc _⟩

theorem p2_pow (k : Nat) : p2 k = 2 ^ k := by
  induction k with
  | zero => rfl
  | succ k ih => rw [p2_succ, ih, Int.pow_succ]; omega
theorem bit_64 : bitI 64 = 9223372036854775808 := by
  have h : p2 63 = 9223372036854775808 := by decide
  exact h
theorem or_root {m root : Int} {j : Nat} (h : Rt m root (j + 1)) : bits .or .u64 root (p2 j) = root + p2 j ∧ 0 ≤ root + p2 j ∧ root + p2 j ≤ 18446744073709551615 := by
  have hp := p2_pos j
  have e := p2_succ j
  have nn := h.nn
  have ht := h.top
  rw [p2_64] at ht
  have hb : root + p2 j ≤ 18446744073709551615 := by omega
  have hq := Int.mul_ediv_add_emod root (p2 (j + 1))
  rw [h.mul, Int.add_zero, Int.mul_comm] at hq
  refine ⟨?_, by omega, hb⟩
  have hA : 0 ≤ root / p2 (j + 1) := Int.ediv_nonneg nn (by omega)
  have hlt : p2 j < 2 ^ (j + 1) := by rw [← p2_pow]; omega
  rw [p2_pow (j + 1)] at hq hA
  have := or_add (A := root / 2 ^ (j + 1)) (b := p2 j) (s := j + 1) hA (by omega) hlt (by rw [hq]; exact hb)
  rw [hq] at this
  exact this

set_option maxHeartbeats 1000000 in
theorem wsqrt_neg (m : Int) (hm : inI m) (h : m < 0) (w : World) :
    Calls Try.prog 37 #[.agg #[.int .i64 (hiI m), .int .u64 (loI m)]] w fun e w' => e = .returned (.tuple #[.int .u64 0, .int .i64 10]) ∧ Gr w w' := by
  have sg : hiI m < 0 := by unfold inI hiI at *; omega
  clear hm h
  go_enter Try.func37, Try.ntmps37
  go_wp2
  go_ret2
  exact ⟨rfl, (Gr.refl _).alloc _⟩

set_option maxHeartbeats 2000000 in
theorem wsqrt_any (m : Int) (hm : inI m) (h : 0 ≤ m) (w : World) :
    Calls Try.prog 37 #[.agg #[.int .i64 (hiI m), .int .u64 (loI m)]] w fun e w' => ∃ s, isSq m s ∧ 0 ≤ s ∧ s ≤ 18446744073709551615 ∧ e = .returned (.tuple #[.int .u64 s, .int .i64 0]) ∧ Gr w w' := by
  have sg : 0 ≤ hiI m := by unfold inI hiI at *; omega
  have x1 : Hid (∀ w, Calls Try.prog 61 #[.agg #[.int .i64 (hiI m), .int .u64 (loI m)]] w fun e w' => e = .returned (.agg #[.int .u64 (m / 18446744073709551616), .int .u64 (m % 18446744073709551616)]) ∧ Gr w w') := fun w => by
    have h1 := wsize_any m hm w
    rw [show absI m = m from by unfold absI; rw [if_neg (by omega)]] at h1
    exact h1
  have R0 : Hid (Rt m 0 64) := Rt.start h hm
  clear hm h
  go_enter Try.func37, Try.ntmps37
  go_wp2_with (go_at_call 61; refine (x1.out _).mono ?_; rintro e w1 ⟨rfl, g1⟩)
  have k := Bx.new w1 88 (.int .u64 (m / 18446744073709551616)) (.int .u64 (m % 18446744073709551616))
  have hG : Gr w (w1.alloc (.cells #[.int .u64 (m / 18446744073709551616), .int .u64 (m % 18446744073709551616)] 88)) := (((Gr.refl _).alloc _).trans g1).alloc _
  clear g1 x1
  generalize w1.alloc (.cells #[.int .u64 (m / 18446744073709551616), .int .u64 (m % 18446744073709551616)] 88) = W at *
  generalize w1.heap.size = X at *
  go_loopw [5, 6] (fun r b wr => ∃ (k : Nat) (root : Int), k ≤ 64 ∧ r = .int .u64 root ∧ b = .int .u64 (bitI k) ∧ Hid (Rt m root k) ∧ Gr W wr) (fun _ b _ => (intOf b).toNat)
  case atStart => exact ⟨64, 0, by omega, rfl, by rw [bit_64], R0, Gr.refl _⟩
  case round =>
    obtain ⟨n, root, hn, rfl, rfl, hR, hg⟩ := hrel
    cases n with
    | zero =>
      have hb : (bitI 0 != 0) = false := by decide
      have hS := hR.out.done
      have hb2 : root ≤ 18446744073709551615 := by have := hR.out.top; rw [p2_64] at this; have := p2_pos 0; omega
      go_wp2
      go_ret2
      exact ⟨root, hS, hS.1, hb2, rfl, hG.trans hg⟩
    | succ j =>
      obtain ⟨o1, o2, o3⟩ := or_root hR.out
      have kr := k.gr hg
      have c0 := kr.c0
      have c1 := kr.c1
      have hp := p2_pos j
      have hb : (bitI (j + 1) != 0) = true := by show (p2 j != 0) = true; simp; omega
      have HB : Hid (bitI (j + 1) = p2 j) := rfl
      have HH : Hid (p2 j / 2 = bitI j) := bit_half j
      have hp' : p2 j ≤ 18446744073709551615 := by have := hR.out.nn; omega
      have O1 : Hid (bits .or .u64 root (p2 j) = root + p2 j) := o1
      rw [HB.out] at hb ⊢
      clear o1
      by_cases hq : (root + p2 j) * (root + p2 j) ≤ m
      · have N : Hid (Rt m (root + p2 j) j) := hR.out.yes hq
        have hq' : decide ((root + p2 j) * (root + p2 j) ≤ m) = true := by simp [hq]
        clear hq
        go_wp2_with (go_at_call 65; rw [O1.out]; refine (holds_any m (root + p2 j) _ o2 o3).mono ?_; rintro e w2 ⟨rfl, g2⟩)
        go_roundw
        case rel => exact ⟨j, _, by omega, by rw [O1.out], by rw [HH.out], N, hg.trans g2⟩
        case measure => show (p2 j / 2).toNat < (p2 j).toNat; omega
      · have N : Hid (Rt m root j) := hR.out.no (by omega)
        have hq' : decide ((root + p2 j) * (root + p2 j) ≤ m) = false := by simp [hq]
        clear hq
        go_wp2_with (go_at_call 65; rw [O1.out]; refine (holds_any m (root + p2 j) _ o2 o3).mono ?_; rintro e w2 ⟨rfl, g2⟩)
        go_roundw
        case rel => exact ⟨j, _, by omega, rfl, by rw [HH.out], N, hg.trans g2⟩
        case measure => show (p2 j / 2).toNat < (p2 j).toNat; omega
end Go.Proofs.Ytgpkigofbncamaa
