/- The reference's codes, bit by bit. -/
import Derived.Test.YtmoddfikhipagaaCe
set_option linter.unusedSimpArgs false
set_option linter.unusedVariables false
namespace Go.Proofs.Ytmoddfikhipagaa
open Go.RowKit Go.Sort

set_option maxRecDepth 20000 in
set_option maxHeartbeats 4000000 in
theorem rcode_any (x y : Int) (hx : in32 x) (hy : in32 y) (w : World) : Calls Try.prog 21 #[pt x y] w fun e w' => e = .returned (.int .u64 (inA 32 (x + 2147483648).toNat (y + 2147483648).toNat : Nat)) ∧ Gr w w' := by
  obtain ⟨U, hU⟩ : ∃ U : Nat, U = (x + 2147483648).toNat := ⟨_, rfl⟩
  obtain ⟨V, hV⟩ : ∃ V : Nat, V = (y + 2147483648).toNat := ⟨_, rfl⟩
  have u1 : IntKind.u64.wrap (wrap64 (wrap64 x + 2147483648)) = (U : Int) := by unfold in32 at hx; rw [IntKind.wrap_u64]; unfold wrap64; omega
  have u2 : IntKind.u64.wrap (wrap64 (wrap64 y + 2147483648)) = (V : Int) := by unfold in32 at hy; rw [IntKind.wrap_u64]; unfold wrap64; omega
  have lU : U < 4294967296 := by unfold in32 at hx; omega
  have lV : V < 4294967296 := by unfold in32 at hy; omega
  rw [← hU, ← hV]
  clear hU hV hx hy
  obtain ⟨C, hC⟩ : ∃ C, C = inA 32 U V := ⟨_, rfl⟩
  rw [← hC]
  have HC := hid0 hC
  clear hC
  go_enter Try.func21, Try.ntmps21
  have k0 := Bk.new w 26 [.int .i32 x, .int .i32 y]
  have g0 : Gr w (w.alloc (.cells #[.int .i32 x, .int .i32 y] 26)) := (Gr.refl _).alloc _
  go_upto_region 1 with fail
  generalize w.alloc (.cells #[.int .i32 x, .int .i32 y] 26) = W at *
  obtain ⟨y0, y1⟩ := k0.two
  go_wp2
  go_loop [3, 4, 5, 6, 7] (fun a b c d e => ∃ k : Nat, k ≤ 32 ∧ a = .int .u64 ((U / 2 ^ k : Nat) : Int) ∧ b = .int .u64 ((V / 2 ^ k : Nat) : Int) ∧ c = .int .u64 ((inA k U V : Nat) : Int) ∧ d = .int .u64 ((4 ^ k % 18446744073709551616 : Nat) : Int) ∧ e = .int .i64 (k : Int))
    (fun _ _ _ _ e => 32 - (intOf e).toNat)
  case atStart => exact ⟨0, by omega, by simp [u1], by simp [u2], rfl, rfl, rfl⟩
  case round =>
    obtain ⟨k, hk, rfl, rfl, rfl, rfl, rfl⟩ := hrel
    by_cases hlt : k < 32
    · have ht := inA_top k U V
      have hl := inA_lt k U V
      have h4 : 4 ^ k ≤ 4611686018427387904 := Nat.pow_le_pow_right (n := 4) (i := k) (j := 31) (by omega) (by omega)
      have hu2 : U / 2 ^ (k + 1) = U / 2 ^ k / 2 := by rw [Nat.pow_succ, Nat.div_div_eq_div_mul]
      have hv2 : V / 2 ^ (k + 1) = V / 2 ^ k / 2 := by rw [Nat.pow_succ, Nat.div_div_eq_div_mul]
      have h4s : 4 ^ (k + 1) = 4 * 4 ^ k := by rw [Nat.pow_succ]; omega
      have lu : U / 2 ^ k < 4294967296 := Nat.lt_of_le_of_lt (Nat.div_le_self _ _) lU
      have lv : V / 2 ^ k < 4294967296 := Nat.lt_of_le_of_lt (Nat.div_le_self _ _) lV
      have HS := hid0 (And.intro ht (And.intro hu2 (And.intro hv2 h4s)))
      have em : 4 ^ k % 18446744073709551616 = 4 ^ k := Nat.mod_eq_of_lt (by omega)
      rw [em]
      clear ht hu2 hv2 h4s em
      generalize U / 2 ^ k = a at *
      generalize V / 2 ^ k = b at *
      generalize 4 ^ k = p at *
      generalize inA k U V = c at *
      go_wp2
      obtain ⟨ht, hu2, hv2, h4s⟩ := HS.out
      refine ⟨⟨k + 1, by omega, ?_, ?_, ?_, ?_, rfl⟩, by simp [intOf]; omega⟩
      · rw [hu2]; exact congrArg (Value.int .u64) (by omega)
      · rw [hv2]; exact congrArg (Value.int .u64) (by omega)
      · rw [ht]
        refine congrArg (Value.int .u64) ?_
        rcases Nat.mod_two_eq_zero_or_one a with ha | ha <;> rcases Nat.mod_two_eq_zero_or_one b with hb | hb
        · have h1 : (a : Int) % 2 = 0 := by omega
          have h2 : (b : Int) % 2 = 0 := by omega
          rw [h1, h2, ha, hb]; simp only [IntKind.wrap_u64]; omega
        · have h1 : (a : Int) % 2 = 0 := by omega
          have h2 : (b : Int) % 2 = 1 := by omega
          rw [h1, h2, ha, hb]; simp only [IntKind.wrap_u64]; omega
        · have h1 : (a : Int) % 2 = 1 := by omega
          have h2 : (b : Int) % 2 = 0 := by omega
          rw [h1, h2, ha, hb]; simp only [IntKind.wrap_u64]; omega
        · have h1 : (a : Int) % 2 = 1 := by omega
          have h2 : (b : Int) % 2 = 1 := by omega
          rw [h1, h2, ha, hb]; simp only [IntKind.wrap_u64]; omega
      · rw [h4s]
        refine congrArg (Value.int .u64) ?_
        simp only [IntKind.wrap_u64]
        omega
    · have hk32 : k = 32 := by omega
      have e : inA k U V = C := by rw [HC.out, hk32]
      rw [e]
      have hk' : ¬ ((k : Int) < 32) := by omega
      clear e hk32
      generalize U / 2 ^ k = a at *
      generalize V / 2 ^ k = b at *
      generalize 4 ^ k % 18446744073709551616 = p at *
      go_wp2
      go_ret
      exact ⟨rfl, g0⟩

theorem wsum {b p : Nat} (hb : b < p) (hp : p ≤ 2147483648) (t : Nat) (i : Int) (hi : i = (t : Int)) (ht : t = 0 ∨ t = 1) : wrap64 ((b : Int) + wrap64 ((p : Int) * i)) = ((b + p * t : Nat) : Int) := by
  rcases ht with rfl | rfl <;> subst hi <;> unfold wrap64 <;> omega
set_option maxRecDepth 20000 in
set_option maxHeartbeats 4000000 in
theorem rdecode_any (n : Nat) (h : n < 18446744073709551616) (w : World) : Calls Try.prog 23 #[.int .u64 (n : Int)] w fun e w' => e = .returned (pt ((outA 32 n : Nat) - 2147483648 : Int) ((outA 32 (n / 2) : Nat) - 2147483648 : Int)) ∧ Gr w w' := by
  obtain ⟨C, hC⟩ : ∃ C, C = outA 32 n := ⟨_, rfl⟩
  obtain ⟨D, hD⟩ : ∃ D, D = outA 32 (n / 2) := ⟨_, rfl⟩
  have HC := hid0 (And.intro hC hD)
  rw [← hC, ← hD]
  clear hC hD
  have k0 := Bk.new w 26 [.int .i32 0, .int .i32 0]
  have g0 : Gr w (w.alloc (.cells #[.int .i32 0, .int .i32 0] 26)) := (Gr.refl _).alloc _
  go_enter Try.func23, Try.ntmps23
  go_upto_region 1 with fail
  generalize w.alloc (.cells #[.int .i32 0, .int .i32 0] 26) = W at *
  go_wp2
  go_loop [0, 3, 4, 5, 6] (fun a b c d e => ∃ k : Nat, k ≤ 32 ∧ a = .int .u64 ((n / 4 ^ k : Nat) : Int) ∧ b = .int .i64 ((outA k n : Nat) : Int) ∧ c = .int .i64 ((outA k (n / 2) : Nat) : Int) ∧ d = .int .i64 ((2 ^ k : Nat) : Int) ∧ e = .int .i64 (k : Int))
    (fun _ _ _ _ e => 32 - (intOf e).toNat)
  case atStart => exact ⟨0, by omega, by simp, rfl, rfl, rfl, rfl⟩
  case round =>
    obtain ⟨k, hk, rfl, rfl, rfl, rfl, rfl⟩ := hrel
    by_cases hlt : k < 32
    · have h1 := outA_top k n
      have h2 := outA_top k (n / 2)
      have l1 := outA_lt k n
      have l2 := outA_lt k (n / 2)
      have h3 : n / 2 / 4 ^ k = n / 4 ^ k / 2 := by rw [Nat.div_div_eq_div_mul, Nat.div_div_eq_div_mul, Nat.mul_comm]
      have h4 : n / 4 ^ (k + 1) = n / 4 ^ k / 2 / 2 := by rw [Nat.pow_succ, ← Nat.div_div_eq_div_mul, Nat.div_div_eq_div_mul (n / 4 ^ k)]
      have h5 : 2 ^ (k + 1) = 2 * 2 ^ k := by rw [Nat.pow_succ]; omega
      have h6 : 2 ^ k ≤ 2147483648 := Nat.pow_le_pow_right (n := 2) (i := k) (j := 31) (by omega) (by omega)
      have l3 : n / 4 ^ k < 18446744073709551616 := Nat.lt_of_le_of_lt (Nat.div_le_self _ _) h
      rw [h3] at h2
      have HS := hid0 (And.intro h1 (And.intro h2 (And.intro h4 h5)))
      clear h1 h2 h3 h4 h5
      generalize n / 4 ^ k = a at *
      generalize outA k n = b at *
      generalize outA k (n / 2) = c at *
      generalize 2 ^ k = p at *
      go_wp2
      obtain ⟨h1, h2, h4, h5⟩ := HS.out
      refine ⟨⟨k + 1, by omega, ?_, ?_, ?_, ?_, rfl⟩, by simp [intOf]; omega⟩
      · rw [h4]; exact congrArg (Value.int .u64) (by omega)
      · rw [h1]
        refine congrArg (Value.int .i64) ?_
        exact wsum l1 h6 _ _ (Int.natCast_emod a 2).symm (Nat.mod_two_eq_zero_or_one a)
      · rw [h2]
        refine congrArg (Value.int .i64) ?_
        exact wsum l2 h6 _ _ rfl (Nat.mod_two_eq_zero_or_one (a / 2))
      · rw [h5]; exact congrArg (Value.int .i64) (by omega)
    · have hk32 : k = 32 := by omega
      have e5 : outA k n = C := by rw [HC.out.1, hk32]
      have e6 : outA k (n / 2) = D := by rw [HC.out.2, hk32]
      have l1 : C < 4294967296 := by rw [HC.out.1]; exact outA_lt 32 n
      have l2 : D < 4294967296 := by rw [HC.out.2]; exact outA_lt 32 (n / 2)
      rw [e5, e6]
      have hk' : ¬ ((k : Int) < 32) := by omega
      clear e5 e6 hk32
      generalize n / 4 ^ k = q at *
      generalize 2 ^ k = p at *
      obtain ⟨a, ha⟩ : ∃ a, a = C := ⟨_, rfl⟩
      obtain ⟨b, hb⟩ : ∃ b, b = D := ⟨_, rfl⟩
      subst ha
      subst hb
      obtain ⟨y0, y1⟩ := k0.two
      have z0 := k0.frozen 0
      have z1 := k0.frozen 1
      have e1 : wrap32 (wrap64 ((a : Int) - 2147483648)) = (a : Int) - 2147483648 := by unfold wrap32 wrap64; omega
      have e2 : wrap32 (wrap64 ((b : Int) - 2147483648)) = (b : Int) - 2147483648 := by unfold wrap32 wrap64; omega
      have e3 : wrap32 ((a : Int) - 2147483648) = (a : Int) - 2147483648 := by unfold wrap32; omega
      have e4 : wrap32 ((b : Int) - 2147483648) = (b : Int) - 2147483648 := by unfold wrap32; omega
      go_wp2
      have f2 : Bk ((W.setCell ⟨w.heap.size, 0, none⟩ (.int .i32 ((a : Int) - 2147483648))).setCell ⟨w.heap.size, 1, none⟩ (.int .i32 ((b : Int) - 2147483648))) w.heap.size 26 [.int .i32 ((a : Int) - 2147483648), .int .i32 ((b : Int) - 2147483648)] := (k0.set 0 _).set 1 _
      have gF := (g0.setCell (p := ⟨w.heap.size, 0, none⟩) (Nat.le_refl _) (.int .i32 ((a : Int) - 2147483648))).setCell (p := ⟨w.heap.size, 1, none⟩) (Nat.le_refl _) (.int .i32 ((b : Int) - 2147483648))
      clear y0 y1 z0 z1 k0
      generalize (W.setCell ⟨w.heap.size, 0, none⟩ (.int .i32 ((a : Int) - 2147483648))).setCell ⟨w.heap.size, 1, none⟩ (.int .i32 ((b : Int) - 2147483648)) = W6 at *
      obtain ⟨a0, a1⟩ := f2.two
      exact bodyPost_ret (v := pt ((a : Int) - 2147483648) ((b : Int) - 2147483648)) (by simp [results, Try.results23, go_sem, a0, a1]) rfl ⟨rfl, gF⟩
end Go.Proofs.Ytmoddfikhipagaa
