/- The law's deep: how often a count can be halved. -/
import Derived.Test.YtpikhdfndnpidaaTn
set_option linter.unusedSimpArgs false
set_option linter.unusedVariables false
namespace Go.Proofs.Ytpikhdfndnpidaa
open Go.RowKit Go.Sort Go.Shelf
/-- How often n can be halved until it is 0. -/
def Halves (n d : Nat) : Prop := n < 2 ^ d ∧ ∀ j, j < d → 2 ^ j ≤ n
theorem ldeep_any (n : Nat) (w : World) (hn : n ≤ 1000000) : Calls Try.prog 11 #[.int .i64 (n : Int)] w fun e w' => ∃ d : Nat, e = .returned (.int .i64 (d : Int)) ∧ Halves n d ∧ d ≤ n ∧ w' = w := by
  go_enter Try.func11, Try.ntmps11
  go_wp2_with fail
  go_loopg [0, 3] n (fun gk a b wr => ∃ m k : Nat, a = .int .i64 (m : Int) ∧ b = .int .i64 (k : Int) ∧ m + k ≤ n ∧ gk = m ∧ Hid (m = n / 2 ^ k ∧ ∀ j, j < k → 2 ^ j ≤ n) ∧ wr = w)
  case atStart => exact ⟨n, 0, rfl, rfl, Nat.le_refl _, rfl, ⟨by simp, fun j h => by omega⟩, rfl⟩
  case round =>
    obtain ⟨m, k, rfl, rfl, hmk, hgk, HI, rfl⟩ := hrel
    subst gk
    by_cases c : 0 < m
    · have ci : (0 : Int) < (m : Int) := by omega
      have hw : wrap64 ((k : Int) + 1) = ((k + 1 : Nat) : Int) := by unfold wrap64; omega
      obtain ⟨h, hh⟩ : ∃ h, h = m / 2 := ⟨_, rfl⟩
      have hq : (m : Int) / 2 = (h : Int) := by omega
      have hq2 : (m : Int).tdiv 2 = (h : Int) := by rw [Int.tdiv_eq_ediv_of_nonneg (by omega)]; omega
      have hq3 : wrap64 (h : Int) = (h : Int) := by unfold wrap64; omega
      have HH := hid0 hh
      have HI2 : Hid (h = n / 2 ^ (k + 1) ∧ ∀ j, j < k + 1 → 2 ^ j ≤ n) := by
        refine ⟨by rw [hh, HI.out.1, Nat.pow_succ, Nat.div_div_eq_div_mul], fun j hj => ?_⟩
        rcases Nat.lt_or_ge j k with h | h
        · exact HI.out.2 j h
        · have : j = k := by omega
          subst this
          have h1 : 0 < n / 2 ^ j := by rw [← HI.out.1]; exact c
          exact (Nat.div_pos_iff.1 h1).2
      clear hh HI
      have HN := hid0 hn
      clear hn
      go_wp2
      go_roundg h
      case measure => have := HH.out; omega
      case rel => exact ⟨h, k + 1, by rw [hq3], by rw [hw], by have := HH.out; omega, rfl, HI2, rfl⟩
    · have ci : ¬ (0 : Int) < (m : Int) := by omega
      have m0 : m = 0 := by omega
      have HH : Hid (Halves n k) := ⟨by
        have h := HI.out.1
        rw [m0] at h
        exact (Nat.div_eq_zero_iff.1 h.symm).elim (fun e => absurd e (by have := Nat.two_pow_pos k; omega)) id, HI.out.2⟩
      clear HI
      go_wp2
      go_ret
      exact ⟨k, rfl, HH.out, by omega, rfl⟩
end Go.Proofs.Ytpikhdfndnpidaa
